/-
  What combination returns.
-/
import Derived.Test.YtdhcffboaiajeaaDoorSparse
namespace Go.Proofs.YtdhcffboaiajeaaDoor
open Go.RowKit M

/-- The combination that the terms c give, term by term. -/
def cmbT (L : List (List Tm)) (c : List Tm) (i : Int) : Int := c.foldl (fun s t => s + t.2 * co (L.getD t.1.toNat []) i) 0
theorem cmbT_snoc (L : List (List Tm)) (c : List Tm) (t : Tm) (i : Int) : cmbT L (c ++ [t]) i = cmbT L c i + t.2 * co (L.getD t.1.toNat []) i := by
  unfold cmbT
  rw [List.foldl_append]
  rfl
theorem fold_shift (g : Tm → Int) : ∀ (c : List Tm) (s : Int), c.foldl (fun s t => s + g t) s = s + c.foldl (fun s t => s + g t) 0
  | [], s => by simp
  | t :: c, s => by
    simp only [List.foldl_cons]
    rw [fold_shift g c (s + g t), fold_shift g c (0 + g t)]
    omega
theorem cmbT_cons (L : List (List Tm)) (c : List Tm) (t : Tm) (i : Int) : cmbT L (t :: c) i = t.2 * co (L.getD t.1.toNat []) i + cmbT L c i := by
  unfold cmbT
  rw [List.foldl_cons, fold_shift (fun t => t.2 * co (L.getD t.1.toNat []) i)]
  omega
theorem smI_add (f g : Nat → Int) : ∀ n, smI (fun k => f k + g k) n = smI f n + smI g n
  | 0 => rfl
  | n + 1 => by
    unfold smI
    rw [smI_add f g n]
    omega
theorem smI_congr {f g : Nat → Int} : ∀ {n : Nat}, (∀ k, k < n → f k = g k) → smI f n = smI g n
  | 0, _ => rfl
  | n + 1, h => by
    unfold smI
    rw [smI_congr (n := n) (fun k hk => h k (by omega)), h n (by omega)]
theorem smI_zero {f : Nat → Int} : ∀ {n : Nat}, (∀ k, k < n → f k = 0) → smI f n = 0
  | 0, _ => rfl
  | n + 1, h => by
    unfold smI
    rw [smI_zero (n := n) (fun k hk => h k (by omega)), h n (by omega)]
    rfl
theorem smI_one {f : Nat → Int} {k : Nat} : ∀ {n : Nat}, k < n → (∀ j, j < n → j ≠ k → f j = 0) → smI f n = f k
  | 0, h, _ => by omega
  | n + 1, h, g => by
    unfold smI
    by_cases e : k = n
    · rw [smI_zero (n := n) (fun j hj => g j (by omega) (by omega)), e]
      omega
    · rw [smI_one (n := n) (by omega) (fun j hj => g j (by omega)), g n (by omega) (by omega)]
      omega
theorem cmbT_eq {p l : Int} {L : List (List Tm)} : ∀ {c : List Tm}, Cl p l c → (∀ t, t ∈ c → t.1 < L.length) → ∀ i, cmbT L c i = cmb L (fun k => co c k) i
  | [], _, _, i => (smI_zero (fun k _ => by show 0 * _ = (0 : Int); rw [Int.zero_mul])).symm
  | t :: c, ⟨a1, a2, a3, a4, a5, a6⟩, hr, i => by
    have ih := cmbT_eq a6 (fun u hu => hr u (by simp [hu])) i
    have htr := hr t (by simp)
    rw [cmbT_cons, ih]
    unfold cmb
    have e : smI (fun k => co (t :: c) k * co (L.getD k []) i) L.length = smI (fun k => (if t.1 = (k : Int) then t.2 * co (L.getD k []) i else 0) + co c k * co (L.getD k []) i) L.length := by
      refine smI_congr fun k _ => ?_
      show (if t.1 = (k : Int) then t.2 else co c k) * _ = _
      by_cases g : t.1 = (k : Int)
      · rw [if_pos g, if_pos g, co_below a6 (i := (k : Int)) (by omega), Int.zero_mul, Int.add_zero]
      · rw [if_neg g, if_neg g, Int.zero_add]
    rw [e, smI_add, smI_one (k := t.1.toNat) (by omega) (fun j _ hj => if_neg (by omega)), if_pos (by omega)]
theorem cmbT_bd {p : Int} {L : List (List Tm)} (hp : 2 ≤ p ∧ p ≤ 251) (hL : Cols p L) : ∀ {c : List Tm} {l : Int}, Cl p l c → ∀ i, 0 ≤ cmbT L c i ∧ cmbT L c i ≤ c.length * 63001
  | [], _, _, i => ⟨Int.le_refl _, by show (0 : Int) ≤ _; simp⟩
  | t :: c, _, ⟨a1, a2, a3, a4, a5, a6⟩, i => by
    have ih := cmbT_bd hp hL a6 i
    have h2 := co_bd (by omega) (hL.at_ t.1.toNat) i
    rw [cmbT_cons]
    obtain ⟨x, hx⟩ : ∃ x, x = co (L.getD t.1.toNat []) i := ⟨_, rfl⟩
    rw [← hx] at h2 ⊢
    have h3 : 0 ≤ t.2 * x := Int.mul_nonneg (by omega) h2.1
    have h4 : t.2 * x ≤ 251 * 251 := Int.mul_le_mul (by omega) (by omega) (by omega) (by omega)
    simp only [List.length_cons, Int.natCast_add, Int.natCast_one]
    omega
theorem slice_at {a : Option Addr} {m n : Nat} {w : World} {L : List (List Tm)} (h : ListV w (.slice a m n) L) : m = L.length := by
  obtain ⟨a', n', e, -⟩ := h
  injection e
set_option maxHeartbeats 1000000 in
set_option maxRecDepth 100000 in
theorem combination_any (p : Int) (v vx : Value) (L : List (List Tm)) (x : List Tm) (w : World) (tb : Tab w) (hp : pr p = true) (hL : ListV w v L) (hx : TermsV w vx x) (cL : Cols p L) (cx : Col p x) (hr : ∀ t, t ∈ x → t.1 < L.length) (hxl : x.length ≤ 1024) :
    Calls Tryd.prog 64 #[.int .i64 p, v, vx] w (GivesC (sp (fun i => md p (cmb L (fun k => co x k) i)) 0 1024) w) := by
  have T := Lib.hid tb
  have hpb := pr_bd hp
  have HE := Lib.hid (cmbT_eq cx hr)
  obtain ⟨a, n, rfl, h1, h2, h3⟩ := hL
  obtain ⟨b, m, rfl, g1, g2, g3⟩ := hx
  unfold maxLen at h2 g2
  clear tb
  go_enter Tryd.func64, Tryd.ntmps64
  go_wp2
  obtain ⟨W0, hW0⟩ : ∃ W0, W0 = w.alloc (.cells Tryd.zeroCells103 103) := ⟨_, rfl⟩
  have V0 : VecB W0 w.heap.size (fun _ => 0) := by rw [hW0]; exact VecB.new w _
  have B0 : Below w.heap.size w W0 := by rw [hW0]; exact (Below.refl _ w).alloc (Nat.le_refl _) _
  rw [← hW0]
  clear hW0
  go_loopw [12] (fun i wr => ∃ k : Nat, k ≤ x.length ∧ i = .int .i64 k ∧ VecB wr w.heap.size (cmbT L (x.take k)) ∧ Below w.heap.size w wr) (fun i _ => x.length - (intOf i).toNat)
  case atStart => exact ⟨0, Nat.zero_le _, rfl, V0, B0⟩
  case round =>
    clear V0 B0
    obtain ⟨k, hk, rfl, hV, hB⟩ := hrel
    by_cases hlt : k < x.length
    · obtain ⟨g, o, rfl, hg, hcl⟩ := g3 (by omega)
      obtain ⟨c0, c1⟩ := hcl k hlt
      have hmem := List.getElem_mem hlt
      obtain ⟨r1, r2, r3, r4⟩ := mem_row cx hmem
      have r5 := hr _ hmem
      have htk : x.take (k + 1) = x.take k ++ [x[k]] := by rw [List.take_append_getElem]
      have hbd : ∀ i, 0 ≤ cmbT L (x.take k) i ∧ cmbT L (x.take k) i ≤ 100000000 := fun i => by
        have : ∀ j, cmbT L (x.take j) i = cmbT L (x.take j) i := fun _ => rfl
        have hcl : ∀ (j : Nat) (c : List Tm) (l : Int), Cl p l c → Cl p l (c.take j) := by
          intro j
          induction j with
          | zero => intro c l _; trivial
          | succ j ih =>
            intro c l h
            cases c with
            | nil => trivial
            | cons t c => obtain ⟨b1, b2, b3, b4, b5, b6⟩ := h; exact ⟨b1, b2, b3, b4, b5, ih c _ b6⟩
        have := cmbT_bd hpb cL (hcl k x _ cx) i
        have h5 : (x.take k).length ≤ 1024 := by rw [List.length_take]; omega
        omega
      obtain ⟨t, ht⟩ : ∃ t, t = x[k] := ⟨_, rfl⟩
      rw [← ht] at c0 c1 r1 r2 r3 r4 r5 htk
      obtain ⟨⟨row, y⟩, rfl⟩ : ∃ u, t = u := ⟨t, rfl⟩
      obtain ⟨r, rfl⟩ := Int.eq_ofNat_of_zero_le r1
      replace c0 := (hB.cell (p := ⟨g, o + k * 2, none⟩) hg).trans c0
      replace c1 := (hB.cell (p := ⟨g, o + k * 2 + 1, none⟩) hg).trans c1
      dsimp only at c0 c1 r1 r2 r3 r4 r5
      obtain ⟨lg, lo, rfl, hlg, hll⟩ := h3 (by omega)
      obtain ⟨s, d0, hTs⟩ := hll r (by omega)
      replace d0 := (hB.cell (p := ⟨lg, lo + r, none⟩) hlg).trans d0
      have hcs : Col p (L[r]'(by omega)) := cL _ (List.getElem_mem _)
      have hgd : L.getD ((r : Int)).toNat [] = L[r]'(by omega) := by rw [Int.toNat_natCast, List.getD_eq_getElem?_getD, List.getElem?_eq_getElem (by omega)]; rfl
      go_wp2
      obtain ⟨W1, hW1⟩ : ∃ W1, W1 = wr.alloc (.cells #[.int .i64 (r : Int), .int .i64 y] 37) := ⟨_, rfl⟩
      rw [← hW1]
      have B1 : Below wr.heap.size wr W1 := by rw [hW1]; exact (Below.refl _ wr).alloc (Nat.le_refl _) _
      have e0 : W1.cell? ⟨wr.heap.size, 0, none⟩ = some (.int .i64 r) := by rw [hW1, World.cell?_alloc_at _ _ _ _ rfl]; rfl
      have e1 : W1.cell? ⟨wr.heap.size, 1, none⟩ = some (.int .i64 y) := by rw [hW1, World.cell?_alloc_at _ _ _ _ rfl]; rfl
      have hz := hB.size
      replace d0 := (B1.cell (p := ⟨lg, lo + r, none⟩) (by show lg < _; omega)).trans d0
      have HB1 := Lib.hid (hB.trans (B1.mono hz))
      have HV1 := Lib.hid (hV.below B1)
      have HTs := Lib.hid (hTs.below HB1.out)
      have hsn : L[r]'(by omega) ≠ [] → ∀ j, s.ownBlock = some j → j ≠ w.heap.size := by
        intro e j hj
        have := hTs.lt e j hj
        omega
      have CA := Lib.hid (add_any p y w.heap.size _ 100000000 s _ W1.drew HV1.out.drew HTs.out.drew hcs hpb.2 (by omega) (by omega) hbd (by omega) hsn)
      clear hW1 B1 c0 c1 hcl g3 h3 hll hV hB hTs
      go_still_tail 7, (by kernel_rfl)
      change wpList _ _ _ _ _ W1.drew
      go_wp2_with (go_at_call 80; refine Calls.mono CA.out ?_; rintro e w2 ⟨rfl, hv2, hg2⟩)
      refine ⟨⟨k + 1, by omega, by go_num, ?_, ?_⟩, by simp [intOf]; omega⟩
      · refine hv2.congr fun i _ => ?_
        rw [htk, cmbT_snoc]
        show _ = _ + y * co (L.getD ((r : Int)).toNat []) i
        rw [hgd]
      · exact (HB1.out.drew).grown hg2 HB1.out.size (fun j e => by injection e with e; omega)
    · have hkx : k = x.length := by omega
      rw [hkx, List.take_length] at hV
      have SP := Lib.hid (sparse_any p (.slice (some ⟨w.heap.size, 0, none⟩) 1024 1024) 1024 _ wr (T.out.on hB) hp (by omega) hV.ints)
      have HB := Lib.hid hB
      clear hV hB g3 h3
      go_wp2_with (go_at_call 60; refine Calls.mono SP.out ?_; rintro e w2 ⟨v2, rfl, ht2, hk2, hb2⟩)
      go_ret
      refine ⟨_, rfl, ?_, fun j e => Nat.le_trans HB.out.size (hk2 j e), HB.out.trans (hb2.mono HB.out.size)⟩
      rw [sp_congr (g := fun i => md p (cmbT L x i)) 1024 0 (fun i _ _ => by rw [HE.out])]
      exact ht2
end Go.Proofs.YtdhcffboaiajeaaDoor
