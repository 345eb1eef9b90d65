/-
  What the reference's Fit and FitList return.
-/
import Derived.Test.YtdhcffboaiajeaaDoorRSparse
import Derived.Test.YtdhcffboaiajeaaDoorRMod
import Derived.Test.YtdhcffboaiajeaaDoorEch
namespace Go.Proofs.YtdhcffboaiajeaaDoor
open Go.RowKit M

/-- A column of at most n rows, in a new block. -/
def GivesFit (p : Int) (n : Nat) (w : World) (e : Ending) (w' : World) : Prop := ∃ v r, e = .returned v ∧ TermsV w' v r ∧ Col p r ∧ (∀ t, t ∈ r → t.1 < n) ∧ (∀ k, v.ownBlock = some k → w.heap.size ≤ k) ∧ Below w.heap.size w w'
theorem sp_rows (f : Int → Int) : ∀ (n k : Nat) (t : Tm), t ∈ sp f k n → t.1 < ((k + n : Nat) : Int)
  | 0, _, _, h => by simp [sp] at h
  | n + 1, k, t, h => by
    unfold sp at h
    split at h
    · have := sp_rows f n (k + 1) t h; omega
    · rcases List.mem_cons.1 h with rfl | h
      · show (k : Int) < _; omega
      · have := sp_rows f n (k + 1) t h; omega
theorem bd_set {p z : Int} {f : Int → Int} {r : Nat} (h : 0 ≤ z ∧ z < p) (g : ∀ i, 0 ≤ f i ∧ f i < p) (i : Int) : 0 ≤ (if i = (r : Int) then z else f i) ∧ (if i = (r : Int) then z else f i) < p := by
  split
  · exact h
  · exact g i
theorem md_bd10 (x : Int) : 0 ≤ md 10 x ∧ md 10 x < 10 := ⟨Int.emod_nonneg _ (by omega), Int.emod_lt_of_pos _ (by omega)⟩
set_option maxHeartbeats 1000000 in
set_option maxRecDepth 100000 in
theorem fit_any (p : Int) (v : Value) (c : List Tm) (w : World) (hp : pr p = true) (hc : TermsV w v c) : Calls Tryd.prog 45 #[.int .i64 p, v, .int .i64 10] w (GivesFit p 10 w) := by
  obtain ⟨i0, hi, hz0, hz1, hz2⟩ := info_parts infoI
  obtain ⟨a, n, rfl, a1, a2, a3⟩ := hc
  have hpb := pr_bd hp
  unfold maxLen at a2
  go_enter Tryd.func45, Tryd.ntmps45
  go_wp2_with (at_make; refine wpList_make_full _ rfl _ _ 41 rfl w.heap.size 3 i0 (.int .i64 0) 1 Tryd.underlying41 hi hz0 hz1 .i64 .i64 _ _ 10 rfl rfl rfl rfl (by rw [hz2]; omega) (by unfold maxLen; omega) (Nat.le_refl _) ?_; intro w2 hr2 hg2)
  have V2 := VecN.made hr2
  have B2 := (Below.refl w.heap.size w).grown hg2 (Nat.le_refl _) (by simp)
  obtain ⟨kb, hkb⟩ : ∃ kb, kb = w.heap.size := ⟨_, rfl⟩
  rw [← hkb] at V2 ⊢
  have hkb0 : w.heap.size ≤ kb := by omega
  clear hr2 hg2 hkb
  go_loopw [8] (fun i wr => ∃ (k : Nat) (f : Int → Int), k ≤ c.length ∧ i = .int .i64 k ∧ VecN wr kb 10 f ∧ (∀ i, 0 ≤ f i ∧ f i < p) ∧ Below w.heap.size w wr) (fun i _ => c.length - (intOf i).toNat)
  case atStart => exact ⟨0, _, Nat.zero_le _, rfl, V2, fun _ => by omega, B2⟩
  case round =>
    clear V2 B2
    obtain ⟨k, f, hk, rfl, hV, hf, hB⟩ := hrel
    by_cases hlt : k < c.length
    · obtain ⟨g, o, rfl, hg, hcl⟩ := a3 (by omega)
      obtain ⟨c0, c1⟩ := hcl k hlt
      replace c0 := (hB.cell (p := ⟨g, o + k * 2, none⟩) hg).trans c0
      replace c1 := (hB.cell (p := ⟨g, o + k * 2 + 1, none⟩) hg).trans c1
      obtain ⟨x, hx⟩ : ∃ x, x = c[k].1 := ⟨_, rfl⟩
      obtain ⟨y, hy⟩ : ∃ y, y = c[k].2 := ⟨_, rfl⟩
      rw [← hx] at c0
      rw [← hy] at c1
      have CB := Lib.hid (bring_any x 10 wr (by omega) (by omega))
      have hb10 : 0 ≤ md 10 x ∧ md 10 x < 10 := md_bd10 x
      obtain ⟨rr, hrr⟩ : ∃ rr, rr = md 10 x := ⟨_, rfl⟩
      rw [← hrr] at CB hb10
      obtain ⟨r, rfl⟩ := Int.eq_ofNat_of_zero_le hb10.1
      have x0 := hV.cell r (by omega)
      have xf := hV.free r
      have CM := Lib.hid (rmod_ok p y wr hp)
      have hmb := md_bd hp y
      obtain ⟨z, hz⟩ : ∃ z, z = md p y := ⟨_, rfl⟩
      rw [← hz] at CM hmb
      have HV := Lib.hid hV
      have HF := Lib.hid hf
      have HB := Lib.hid hB
      obtain ⟨fr, hfr⟩ : ∃ fr, fr = f r := ⟨_, rfl⟩
      rw [← hfr] at x0
      clear hcl a3 hx hy hrr hz hV hf hB hfr
      by_cases h0 : fr = 0
      · have e0 : (fr == 0) = true := beq_iff_eq.2 h0
        subst h0
        go_wp2_with (first | (go_at_call 76; refine Calls.mono CB.out ?_; rintro e w' ⟨rfl, rfl⟩) | (go_at_call 46; refine Calls.mono CM.out ?_; rintro e w' ⟨rfl, rfl⟩))
        exact ⟨⟨k + 1, _, by omega, by go_num, HV.out.set (r := r) (by omega) z, bd_set hmb HF.out, HB.out.setCell (p := ⟨kb, r, none⟩) hkb0 _⟩, by simp [intOf]; omega⟩
      · have e0 : (fr == 0) = false := beq_eq_false_iff_ne.2 h0
        go_wp2_with (first | (go_at_call 76; refine Calls.mono CB.out ?_; rintro e w' ⟨rfl, rfl⟩))
        exact ⟨⟨k + 1, f, by omega, by go_num, HV.out, HF.out, HB.out⟩, by simp [intOf]; omega⟩
    · have RS := Lib.hid (rsparse_any _ 10 f wr (by omega) (hV.ints (by omega)))
      have hcol : Col p (sp f 0 10) := sp_col hf (by omega) (by omega)
      have hrow := fun t ht => sp_rows f 10 0 t ht
      have HC := Lib.hid hcol
      have HR := Lib.hid hrow
      have HB := Lib.hid hB
      clear hV hf hB hcol hrow a3
      go_wp2_with fail
      refine Calls.mono RS.out ?_
      rintro e w3 ⟨v3, rfl, hT3, hk3, hb3⟩
      have R := Lib.hid (show GivesFit p 10 w (.returned v3) w3 from ⟨v3, _, rfl, hT3, HC.out, fun t ht => by have := HR.out t ht; omega, fun k hk => Nat.le_trans HB.out.size (hk3 k hk), HB.out.trans (hb3.mono HB.out.size)⟩)
      clear hT3 hk3 hb3
      go_wp2
      go_ret
      exact R.out
end Go.Proofs.YtdhcffboaiajeaaDoor
