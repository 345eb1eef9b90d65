/-
  What the reference's Of returns.
-/
import Derived.Test.YtdhcffboaiajeaaDoorRSparse
import Derived.Test.YtdhcffboaiajeaaDoorRMod
namespace Go.Proofs.YtdhcffboaiajeaaDoor
open Go.RowKit M

set_option maxHeartbeats 1000000 in
set_option maxRecDepth 100000 in
theorem rof_ok (p : Int) (v : Value) (n : Nat) (f : Int → Int) (w : World) (hp : pr p = true) (hn : n ≤ 1024) (h : IntsF w v n f) : Calls Tryd.prog 29 #[.int .i64 p, v] w (GivesCE (sp (fun i => md p (f i)) 0 n) 0 w) := by
  obtain ⟨i0, hi, hz0, hz1, hz2⟩ := info_parts infoI
  obtain ⟨a, c, rfl, h1, h2, h3⟩ := h
  unfold maxLen at h2
  go_enter Tryd.func29, Tryd.ntmps29
  go_wp2_with (first | (go_at_call 54; refine (rprime_any p _).mono ?_; rw [hp]; rintro e w' ⟨rfl, rfl⟩) | (at_make; refine wpList_make_full _ rfl _ _ 41 rfl w.heap.size 3 i0 (.int .i64 0) 1 Tryd.underlying41 hi hz0 hz1 .i64 .i64 _ _ n rfl rfl rfl rfl (by rw [hz2]; omega) (by unfold maxLen; omega) (Nat.le_refl _) ?_; intro w2 hr2 hg2))
  have V2 := VecN.made hr2
  have B2 := (Below.refl w.heap.size w).grown hg2 (Nat.le_refl _) (by simp)
  obtain ⟨kb, hkb⟩ : ∃ kb, kb = w.heap.size := ⟨_, rfl⟩
  rw [← hkb] at V2 ⊢
  have hkb0 : w.heap.size ≤ kb := by omega
  clear hr2 hg2 hkb
  go_loopw [7] (fun i wr => ∃ k : Nat, k ≤ n ∧ i = .int .i64 k ∧ VecN wr kb n (fun i => if i < (k : Int) then md p (f i) else 0) ∧ Below w.heap.size w wr) (fun i _ => n - (intOf i).toNat)
  case atStart => exact ⟨0, Nat.zero_le _, rfl, V2.congr (fun i _ => by rw [if_neg (by omega)]), B2⟩
  case round =>
    clear V2 B2
    obtain ⟨k, hk, rfl, hV, hB⟩ := hrel
    by_cases hlt : k < n
    · obtain ⟨g, o, rfl, hg, hc⟩ := h3 (by omega)
      have c0 := (hB.cell (p := ⟨g, o + k, none⟩) hg).trans (hc k hlt)
      have CM := Lib.hid (rmod_ok p (f k) wr hp)
      obtain ⟨z, hz⟩ : ∃ z, z = md p (f k) := ⟨_, rfl⟩
      obtain ⟨y, hy⟩ : ∃ y, y = f k := ⟨_, rfl⟩
      rw [← hz] at CM
      rw [← hy] at c0 CM
      have x0 := hV.cell k hlt
      have xf := hV.free k
      have hkn : (k : Int) < n := by omega
      have HZ := Lib.hid hz
      have HV := Lib.hid hV
      have HB := Lib.hid hB
      clear hc h3 hz hy hV hB
      go_wp2_with (go_at_call 46; refine Calls.mono CM.out ?_; rintro e w' ⟨rfl, rfl⟩)
      refine ⟨⟨k + 1, by omega, by go_num, (HV.out.set hlt z).congr fun i _ => ?_, HB.out.setCell (p := ⟨kb, k, none⟩) hkb0 _⟩, by simp [intOf]; omega⟩
      by_cases e : (i : Int) = k
      · rw [if_pos e, if_pos (by omega), HZ.out, e]
      · rw [if_neg e]
        by_cases e2 : (i : Int) < k
        · rw [if_pos e2, if_pos (by omega)]
        · rw [if_neg e2, if_neg (by omega)]
    · have hkx : k = n := by omega
      subst hkx
      have hV2 : VecN wr kb k (fun i => md p (f i)) := hV.congr fun i hi => by rw [if_pos (by omega)]
      have RS := Lib.hid (rsparse_any _ k _ wr (by omega) (hV2.ints (by omega)))
      have HB := Lib.hid hB
      clear hV hB hV2 h3
      go_wp2_with fail
      refine Calls.mono RS.out ?_
      rintro e w3 ⟨v3, rfl, hT3, hk3, hb3⟩
      have R := Lib.hid (show GivesCE (sp (fun i => md p (f i)) 0 k) 0 w (.returned (.tuple #[v3, .int .i64 0])) w3 from ⟨v3, rfl, hT3, fun j hj => Nat.le_trans HB.out.size (hk3 j hj), HB.out.trans (hb3.mono HB.out.size)⟩)
      clear hT3 hk3 hb3
      go_wp2
      go_ret2
      exact R.out
theorem rof_any (p : Int) (v : Value) (n : Nat) (f : Int → Int) (w : World) (h : IntsF w v n f) : Calls Tryd.prog 29 #[.int .i64 p, v] w (GivesCE (if ofE p n = 0 then sp (fun i => md p (f i)) 0 n else []) (ofE p n) w) := by
  unfold ofE
  cases hp : pr p with
  | false =>
    rw [if_neg (by simp), if_neg (by simp)]
    obtain ⟨a, c, rfl, -, -, -⟩ := h
    go_enter Tryd.func29, Tryd.ntmps29
    go_wp2_with (go_at_call 54; refine (rprime_any p _).mono ?_; rw [hp]; rintro e w' ⟨rfl, rfl⟩)
    go_ret2
    exact GivesCE.err (Below.refl _ _)
  | true =>
    by_cases hn : 1024 < n
    · rw [if_pos rfl, if_pos hn, if_neg (by omega)]
      obtain ⟨a, c, rfl, -, -, -⟩ := h
      have hn2 : (1024 : Int) < n := by omega
      go_enter Tryd.func29, Tryd.ntmps29
      go_wp2_with (go_at_call 54; refine (rprime_any p _).mono ?_; rw [hp]; rintro e w' ⟨rfl, rfl⟩)
      go_ret2
      exact GivesCE.err (Below.refl _ _)
    · rw [if_pos rfl, if_neg hn, if_pos rfl]
      exact rof_ok p v n f w hp (by omega) h
end Go.Proofs.YtdhcffboaiajeaaDoor
