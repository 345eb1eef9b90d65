/-
  What Combine and Dense return.
-/
import Derived.Test.YtdhcffboaiajeaaDoorApi
namespace Go.Proofs.YtdhcffboaiajeaaDoor
open Go.RowKit M

theorem low_any (v : Value) (c : List Tm) (w : World) (h : TermsV w v c) : Calls Tryd.prog 15 #[v] w fun e w' => e = .returned (.tuple #[.int .i64 (low c), .bool (decide (c ≠ []))]) ∧ w = w' := by
  by_cases h0 : c = []
  · subst h0
    obtain ⟨a, n, rfl, -, -, -⟩ := h
    exact low_none a n w
  · have := low_some v c w h h0
    rw [decide_eq_true h0]
    exact this
theorem row_le_low {p : Int} : ∀ {l : Int} {c : List Tm}, Cl p l c → ∀ t, t ∈ c → t.1 ≤ low c
  | _, [], _, t, h => by cases h
  | l, [s], _, t, h => by rw [List.mem_singleton.1 h]; exact Int.le_refl _
  | l, s :: u :: c, ⟨a1, a2, a3, a4, a5, a6⟩, t, h => by
    rw [low_cons]
    rcases List.mem_cons.1 h with rfl | h
    · have := row_le_low a6 u (by simp)
      obtain ⟨b1, b2, b3, b4, b5, b6⟩ := a6
      omega
    · exact row_le_low a6 t h
/-- What Combine finds. -/
def cmbE (p : Int) (L : List (List Tm)) (x : List Tm) : Int := if chkLs p L = 0 then if chk p x = 0 then if x ≠ [] ∧ (L.length : Int) ≤ low x then 10 else 0 else chk p x else chkLs p L
theorem combine_list (p : Int) (v vx : Value) (L : List (List Tm)) (w : World) (tb : Tab w) (hL : ListV w v L) (h : chkLs p L ≠ 0) : Calls Tryd.prog 34 #[.int .i64 p, v, vx] w (GivesCE [] (chkLs p L) w) := by
  obtain ⟨x, hx⟩ : ∃ x, x = chkLs p L := ⟨_, rfl⟩
  have CA := Lib.hid (checkList_any p v L w tb hL)
  rw [← hx] at CA h ⊢
  have e0 : (x == 0) = false := beq_eq_false_iff_ne.2 h
  clear hx h tb hL
  go_enter Tryd.func34, Tryd.ntmps34
  go_wp2_with fail
  refine Calls.mono CA.out ?_
  rintro e w1 ⟨rfl, hb1⟩
  have B1 := Lib.hid hb1
  clear hb1
  go_wp2
  go_ret2
  exact GivesCE.err B1.out
theorem combine_x (p : Int) (v vx : Value) (L : List (List Tm)) (c : List Tm) (w : World) (tb : Tab w) (hL : ListV w v L) (hc : TermsV w vx c) (h : chkLs p L = 0) (h' : chk p c ≠ 0) : Calls Tryd.prog 34 #[.int .i64 p, v, vx] w (GivesCE [] (chk p c) w) := by
  have CA := Lib.hid (checkList_any p v L w tb hL)
  rw [h] at CA
  have CB := Lib.hid (fun W (hb : Below w.heap.size w W) => check_any p vx c W (tb.on hb) (hc.below hb))
  obtain ⟨x, hx⟩ : ∃ x, x = chk p c := ⟨_, rfl⟩
  rw [← hx] at CB h' ⊢
  have e0 : (x == 0) = false := beq_eq_false_iff_ne.2 h'
  clear hx h h' tb hL hc
  go_enter Tryd.func34, Tryd.ntmps34
  go_wp2_with fail
  refine Calls.mono CA.out ?_
  rintro e w1 ⟨rfl, hb1⟩
  have B1 := Lib.hid hb1
  clear hb1
  go_wp2_with fail
  refine Calls.mono (CB.out w1 B1.out) ?_
  rintro e w2 ⟨rfl, hb2⟩
  have B2 := Lib.hid (B1.out.trans (hb2.mono B1.out.size))
  clear hb2
  go_wp2
  go_ret2
  exact GivesCE.err B2.out
theorem combine_shape (p : Int) (v vx : Value) (L : List (List Tm)) (c : List Tm) (w : World) (tb : Tab w) (hL : ListV w v L) (hc : TermsV w vx c) (h : chkLs p L = 0) (h' : chk p c = 0) (hs : c ≠ [] ∧ (L.length : Int) ≤ low c) : Calls Tryd.prog 34 #[.int .i64 p, v, vx] w (GivesCE [] 10 w) := by
  have CA := Lib.hid (checkList_any p v L w tb hL)
  rw [h] at CA
  have CB := Lib.hid (fun W (hb : Below w.heap.size w W) => check_any p vx c W (tb.on hb) (hc.below hb))
  rw [h'] at CB
  have CL := Lib.hid (fun W (hb : Below w.heap.size w W) => low_any vx c W (hc.below hb))
  rw [decide_eq_true hs.1] at CL
  have hs2 := hs.2
  obtain ⟨lo, hlo⟩ : ∃ lo, lo = low c := ⟨_, rfl⟩
  rw [← hlo] at CL hs2
  obtain ⟨a, n, rfl, -, -, -⟩ := hL
  have hd : decide ((L.length : Int) ≤ lo) = true := decide_eq_true hs2
  clear h h' tb hc hs hlo
  go_enter Tryd.func34, Tryd.ntmps34
  go_wp2_with fail
  refine Calls.mono CA.out ?_
  rintro e w1 ⟨rfl, hb1⟩
  have B1 := Lib.hid hb1
  clear hb1
  go_wp2_with fail
  refine Calls.mono (CB.out w1 B1.out) ?_
  rintro e w2 ⟨rfl, hb2⟩
  have B2 := Lib.hid (B1.out.trans (hb2.mono B1.out.size))
  clear hb2
  go_wp2_with fail
  refine Calls.mono (CL.out w2 B2.out) ?_
  rintro e w3 ⟨rfl, rfl⟩
  go_wp2
  go_ret2
  exact GivesCE.err B2.out
theorem combine_ok (p : Int) (v vx : Value) (L : List (List Tm)) (c : List Tm) (w : World) (tb : Tab w) (hL : ListV w v L) (hc : TermsV w vx c) (h : chkLs p L = 0) (h' : chk p c = 0) (hs : ¬ (c ≠ [] ∧ (L.length : Int) ≤ low c)) : Calls Tryd.prog 34 #[.int .i64 p, v, vx] w (GivesCE (sp (fun i => md p (cmb L (fun k => co c k) i)) 0 1024) 0 w) := by
  obtain ⟨h1, hp, cL⟩ := chkLs_zero.1 h
  have cc := (chk_zero.1 h').2
  have hr : ∀ t, t ∈ c → t.1 < L.length := by
    intro t ht
    have := row_le_low cc t ht
    have h0 : c ≠ [] := fun e => by rw [e] at ht; cases ht
    rcases Int.lt_or_le (low c) L.length with g | g
    · omega
    · exact absurd ⟨h0, g⟩ hs
  have CA := Lib.hid (checkList_any p v L w tb hL)
  rw [h] at CA
  have CB := Lib.hid (fun W (hb : Below w.heap.size w W) => check_any p vx c W (tb.on hb) (hc.below hb))
  rw [h'] at CB
  have CL := Lib.hid (fun W (hb : Below w.heap.size w W) => low_any vx c W (hc.below hb))
  have CC := Lib.hid (fun W (hb : Below w.heap.size w W) => combination_any p v vx L c W (tb.on hb) hp (hL.below hb) (hc.below hb) cL cc hr (col_len cc))
  obtain ⟨lo, hlo⟩ : ∃ lo, lo = low c := ⟨_, rfl⟩
  obtain ⟨b, hb⟩ : ∃ b, b = decide (c ≠ []) := ⟨_, rfl⟩
  rw [← hlo, ← hb] at CL
  have hd : b = false ∨ (b = true ∧ ¬ (L.length : Int) ≤ lo) := by
    by_cases g : c = []
    · left; rw [hb]; simp [g]
    · right; rw [hlo, hb]; exact ⟨decide_eq_true g, fun e => hs ⟨g, e⟩⟩
  obtain ⟨a, n, rfl, -, -, -⟩ := hL
  clear h h' tb hc hs hlo cL cc hr h1 hb
  rcases hd with rfl | ⟨rfl, hd⟩
  all_goals
    go_enter Tryd.func34, Tryd.ntmps34
    go_wp2_with fail
    refine Calls.mono CA.out ?_
    rintro e w1 ⟨rfl, hb1⟩
    have B1 := Lib.hid hb1
    clear hb1
    go_wp2_with fail
    refine Calls.mono (CB.out w1 B1.out) ?_
    rintro e w2 ⟨rfl, hb2⟩
    have B2 := Lib.hid (B1.out.trans (hb2.mono B1.out.size))
    clear hb2
    go_wp2_with fail
    refine Calls.mono (CL.out w2 B2.out) ?_
    rintro e w3 ⟨rfl, rfl⟩
    go_wp2_with (go_at_call 64; refine Calls.mono (CC.out w2 B2.out) ?_; rintro e w4 ⟨v4, rfl, ht4, hk4, hb4⟩)
    go_ret2
    exact ⟨_, rfl, ht4, fun j hj => Nat.le_trans B2.out.size (hk4 j hj), B2.out.trans (hb4.mono B2.out.size)⟩
theorem combine_col (p : Int) (v vx : Value) (L : List (List Tm)) (c : List Tm) (w : World) (tb : Tab w) (hL : ListV w v L) (hc : TermsV w vx c) : Calls Tryd.prog 34 #[.int .i64 p, v, vx] w (GivesCE (if cmbE p L c = 0 then sp (fun i => md p (cmb L (fun k => co c k) i)) 0 1024 else []) (cmbE p L c) w) := by
  unfold cmbE
  by_cases h : chkLs p L = 0
  · by_cases h' : chk p c = 0
    · by_cases hs : c ≠ [] ∧ (L.length : Int) ≤ low c
      · rw [if_pos h, if_pos h', if_pos hs, if_neg (by omega)]
        exact combine_shape p v vx L c w tb hL hc h h' hs
      · rw [if_pos h, if_pos h', if_neg hs, if_pos rfl]
        exact combine_ok p v vx L c w tb hL hc h h' hs
    · rw [if_pos h, if_neg h', if_neg h']
      exact combine_x p v vx L c w tb hL hc h h'
  · rw [if_neg h, if_neg h]
    exact combine_list p v vx L w tb hL h
end Go.Proofs.YtdhcffboaiajeaaDoor
