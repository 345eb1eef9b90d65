/-
  What the reference's Plus, Add, Scale and Dot return.
-/
import Derived.Test.YtdhcffboaiajeaaDoorRPlus
namespace Go.Proofs.YtdhcffboaiajeaaDoor
open Go.RowKit M

theorem sp_pls {p : Int} (hp : pr p = true) {a b : List Tm} (k : Int) (ca : Col p a) (cb : Col p b) {n : Nat} (hn : n ≤ 1024) (ha : ∀ t, t ∈ a → t.1 < n) (hb : ∀ t, t ∈ b → t.1 < n) : sp (fun i => md p (co a i + md p k * co b i)) 0 n = pls p a k b := by
  refine col_ext (last := -1) (sp_col (fun _ => md_bd hp _) (by omega) (by omega)) (pls_col hp a k b) fun i => ?_
  rw [sp_co, pls_co ca cb]
  by_cases g : ((0 : Nat) : Int) ≤ i ∧ i < ((0 + n : Nat) : Int)
  · rw [if_pos g]
  · rw [if_neg g]
    have key : ∀ c : List Tm, Col p c → (∀ t, t ∈ c → t.1 < n) → co c i = 0 := fun c cc hc => by
      by_cases h0 : i < 0
      · exact co_out cc (.inl h0)
      · exact co_none c i (fun ⟨s, hs, e⟩ => by have := hc s hs; omega)
    rw [key a ca ha, key b cb hb, Int.mul_zero, Int.add_zero]
    exact (Int.zero_emod p).symm
theorem tform {w : World} {v : Value} {c : List Tm} (h : TermsV w v c) : ∃ a n, v = .slice a c.length n := let ⟨a, n, e, _⟩ := h; ⟨a, n, e⟩
set_option maxHeartbeats 1000000 in
set_option maxRecDepth 100000 in
theorem rplus_any (p k : Int) (va vb : Value) (a b : List Tm) (w : World) (hp : pr p = true) (ha : TermsV w va a) (hb : TermsV w vb b) (ca : Col p a) (cb : Col p b) : Calls Tryd.prog 58 #[.int .i64 p, va, .int .i64 k, vb] w (GivesC (pls p a k b) w) := by
  obtain ⟨fa, na, rfl⟩ := tform ha
  obtain ⟨fb, nb, rfl⟩ := tform hb
  have hL : Cols p [a, b] := fun c hc => by
    simp only [List.mem_cons, List.not_mem_nil, or_false] at hc
    rcases hc with rfl | rfl
    · exact ca
    · exact cb
  obtain ⟨W1, hW1⟩ : ∃ W1, W1 = w.alloc (.cells #[.slice fa a.length na, .slice fb b.length nb] 22) := ⟨_, rfl⟩
  have B1 : Below w.heap.size w W1 := by rw [hW1]; exact (Below.refl _ w).alloc (Nat.le_refl _) _
  have SZ := Lib.hid (rsize_any p (.slice (some ⟨w.heap.size, 0, none⟩) 2 2) [a, b] W1 hL (fun c hc => col_len (hL c hc)) (by rw [hW1]; exact laidL2 w (.slice fa a.length na) (.slice fb b.length nb) a b _ ha hb))
  obtain ⟨h0, h1⟩ := szL_props [a, b] 0
  have h2 := szL_le (n := 0) hL (by omega)
  obtain ⟨n, hn⟩ : ∃ n : Nat, szL 0 [a, b] = (n : Int) := ⟨(szL 0 [a, b]).toNat, by omega⟩
  rw [hn] at SZ h1 h2
  have hn2 : n ≤ 1024 := by omega
  have hra : ∀ t, t ∈ a → t.1 < n := h1 a (by simp)
  have hrb : ∀ t, t ∈ b → t.1 < n := h1 b (by simp)
  have SPL := Lib.hid (sp_pls hp k ca cb hn2 hra hrb)
  have HA := Lib.hid (ha.below B1)
  have HB := Lib.hid (hb.below B1)
  have VA := Lib.hid (rvector_any p n (.slice fa a.length na) a W1 ca hra hn2 HA.out)
  have VB := Lib.hid (fun W (h : Below W1.heap.size W1 W) => rvector_any p n (.slice fb b.length nb) b W cb hrb hn2 (HB.out.below h))
  have HB1 := Lib.hid B1
  have CA := Lib.hid (co_bd (by have := pr_bd hp; omega) ca)
  have CB := Lib.hid (co_bd (by have := pr_bd hp; omega) cb)
  clear hra hrb h0 h1 h2 hn hL ca cb B1 ha hb
  go_enter Tryd.func58, Tryd.ntmps58
  go_wp2_with fail
  rw [← hW1]
  clear hW1
  refine Calls.mono SZ.out ?_
  rintro e w' ⟨rfl, rfl⟩
  go_wp2_with fail
  refine Calls.mono VA.out ?_
  rintro e w2 ⟨v2, rfl, h2, -, b2⟩
  have HV2 := Lib.hid h2
  have HB2 := Lib.hid b2
  clear h2 b2
  go_wp2_with fail
  refine Calls.mono (VB.out w2 HB2.out) ?_
  rintro e w3 ⟨v3, rfl, h3, -, b3⟩
  have SM := Lib.hid (rsum_any p k v2 v3 n (co a) (co b) w3 hp (by omega) CA.out CB.out (HV2.out.below b3) h3)
  have HB3 := Lib.hid (HB2.out.trans (b3.mono HB2.out.size))
  clear h3 b3
  go_wp2_with fail
  refine Calls.mono SM.out ?_
  rintro e w4 ⟨v4, rfl, h4, -, b4⟩
  have SR := Lib.hid (rsparse_any v4 n _ w4 (by omega) h4)
  rw [SPL.out] at SR
  have HB4 := Lib.hid (HB3.out.trans (b4.mono HB3.out.size))
  clear h4 b4
  go_wp2_with fail
  refine Calls.mono SR.out ?_
  rintro e w5 ⟨v5, rfl, h5, k5, b5⟩
  have s1 := HB1.out.size
  have s4 := HB4.out.size
  have R := Lib.hid (show GivesC (pls p a k b) w (.returned v5) w5 from ⟨v5, rfl, h5, fun g e => by have := k5 g e; omega, HB1.out.trans ((HB4.out.trans (b5.mono HB4.out.size)).mono HB1.out.size)⟩)
  clear h5 k5 b5
  go_wp2
  go_ret
  exact R.out
theorem chkA_two (p : Int) (a b : List Tm) : chkA p [a, b] = chk2 p a b := by
  unfold chkA chk2
  by_cases h : chk p a = 0
  · rw [if_pos h, if_pos h]
    unfold chkA
    by_cases h' : chk p b = 0
    · rw [if_pos h', h']; rfl
    · rw [if_neg h']
  · rw [if_neg h, if_neg h]
set_option maxHeartbeats 1000000 in
theorem radd_any (p k : Int) (va vb : Value) (a b : List Tm) (w : World) (ha : TermsV w va a) (hb : TermsV w vb b) : Calls Tryd.prog 22 #[.int .i64 p, va, .int .i64 k, vb] w (GivesCE (if chk2 p a b = 0 then pls p a k b else []) (chk2 p a b) w) := by
  obtain ⟨fa, na, rfl⟩ := tform ha
  obtain ⟨fb, nb, rfl⟩ := tform hb
  obtain ⟨W1, hW1⟩ : ∃ W1, W1 = w.alloc (.cells #[.slice fa a.length na, .slice fb b.length nb] 22) := ⟨_, rfl⟩
  have B1 : Below w.heap.size w W1 := by rw [hW1]; exact (Below.refl _ w).alloc (Nat.le_refl _) _
  have CA := Lib.hid (rcheckAll_any p (.slice (some ⟨w.heap.size, 0, none⟩) 2 2) [a, b] W1 (by rw [hW1]; exact laidL2 w (.slice fa a.length na) (.slice fb b.length nb) a b _ ha hb))
  rw [chkA_two] at CA
  obtain ⟨x, hx⟩ : ∃ x, x = chk2 p a b := ⟨_, rfl⟩
  rw [← hx] at CA ⊢
  have HA := Lib.hid (ha.below B1)
  have HB := Lib.hid (hb.below B1)
  have HB1 := Lib.hid B1
  clear B1 ha hb
  by_cases h0 : x = 0
  · have e0 : (x == 0) = true := beq_iff_eq.2 h0
    rw [if_pos h0]
    obtain ⟨hp, ca, cb⟩ := chk2_zero.1 (hx.symm.trans h0)
    have PL := Lib.hid (rplus_any p k (.slice fa a.length na) (.slice fb b.length nb) a b W1 hp HA.out HB.out ca cb)
    subst h0
    clear hx ca cb
    go_enter Tryd.func22, Tryd.ntmps22
    go_wp2_with fail
    rw [← hW1]
    clear hW1
    refine Calls.mono CA.out ?_
    rintro e w' ⟨rfl, rfl⟩
    go_wp2_with fail
    refine Calls.mono PL.out ?_
    rintro e w5 ⟨v5, rfl, h5, k5, b5⟩
    have R := Lib.hid (show GivesCE (pls p a k b) 0 w (.returned (.tuple #[v5, .int .i64 0])) w5 from ⟨v5, rfl, h5, fun g e => Nat.le_trans HB1.out.size (k5 g e), HB1.out.trans (b5.mono HB1.out.size)⟩)
    clear h5 k5 b5
    go_wp2
    go_ret2
    exact R.out
  · have e0 : (x == 0) = false := beq_eq_false_iff_ne.2 h0
    rw [if_neg h0]
    clear h0 hx
    go_enter Tryd.func22, Tryd.ntmps22
    go_wp2_with fail
    rw [← hW1]
    clear hW1
    refine Calls.mono CA.out ?_
    rintro e w' ⟨rfl, rfl⟩
    go_wp2
    go_ret2
    exact GivesCE.err HB1.out
theorem chk2_nil (p : Int) (a : List Tm) : chk2 p [] a = chk p a := by
  unfold chk2
  by_cases hp : pr p = true
  · rw [if_pos (chk_zero.2 ⟨hp, show Col p [] from trivial⟩)]
  · have h : ∀ c : List Tm, chk p c = 8 := fun c => by unfold chk; rw [if_neg hp]
    rw [h, h, if_neg (by omega)]
theorem rscale_any (p k : Int) (va : Value) (a : List Tm) (w : World) (ha : TermsV w va a) : Calls Tryd.prog 24 #[.int .i64 p, va, .int .i64 k] w (GivesCE (if chk p a = 0 then pls p [] k a else []) (chk p a) w) := by
  have CA := Lib.hid (radd_any p k (.slice none 0 0) va [] a w (TermsV.nil w) ha)
  rw [chk2_nil] at CA
  obtain ⟨x, hx⟩ : ∃ x, x = chk p a := ⟨_, rfl⟩
  rw [← hx] at CA ⊢
  obtain ⟨C, hC⟩ : ∃ C, C = (if x = 0 then pls p [] k a else []) := ⟨_, rfl⟩
  rw [← hC] at CA ⊢
  clear hx hC
  go_enter Tryd.func24, Tryd.ntmps24
  go_wp2_with fail
  refine Calls.mono CA.out ?_
  rintro e w5 ⟨v5, rfl, h5, k5, b5⟩
  have R := Lib.hid (show GivesCE C x w (.returned (.tuple #[v5, .int .i64 x])) w5 from ⟨v5, rfl, h5, k5, b5⟩)
  clear h5 k5 b5
  go_wp2
  go_ret2
  exact R.out
end Go.Proofs.YtdhcffboaiajeaaDoor
