/-
  What checkLows, Rest and Kernel return.
-/
import Derived.Test.YtdhcffboaiajeaaDoorKern2
import Derived.Test.YtdhcffboaiajeaaDoorDense
namespace Go.Proofs.YtdhcffboaiajeaaDoor
open Go.RowKit M

/-- What checkLows finds, the rows 'seen' having come. -/
def lwE : List (List Tm) → List Int → Int
  | [], _ => 0
  | c :: L, seen => if c = [] then 9 else if low c ∈ seen then 5 else lwE L (low c :: seen)
theorem lwE_zero : ∀ {L : List (List Tm)} {seen : List Int}, lwE L seen = 0 → (∀ k, k < L.length → L.getD k [] ≠ [] ∧ low (L.getD k []) ∉ seen) ∧ ∀ j k, j < L.length → k < L.length → low (L.getD j []) = low (L.getD k []) → j = k
  | [], _, _ => ⟨fun k hk => absurd hk (by simp), fun j k hj => absurd hj (by simp)⟩
  | c :: L, seen, h => by
    unfold lwE at h
    by_cases h0 : c = []
    · rw [if_pos h0] at h; omega
    · rw [if_neg h0] at h
      by_cases h1 : low c ∈ seen
      · rw [if_pos h1] at h; omega
      · rw [if_neg h1] at h
        obtain ⟨a, b⟩ := lwE_zero h
        refine ⟨fun k hk => ?_, fun j k hj hk e => ?_⟩
        · match k, hk with
          | 0, _ => exact ⟨h0, h1⟩
          | k + 1, hk =>
            have := a k (by simpa using hk)
            exact ⟨this.1, fun e => this.2 (List.mem_cons.2 (.inr e))⟩
        · match j, k, hj, hk, e with
          | 0, 0, _, _, _ => rfl
          | 0, k + 1, _, hk, e => exact absurd (by rw [show low (L.getD k []) = low c from e.symm]; simp) (a k (by simpa using hk)).2
          | j + 1, 0, hj, _, e => exact absurd (by rw [show low (L.getD j []) = low c from e]; simp) (a j (by simpa using hj)).2
          | j + 1, k + 1, hj, hk, e => rw [b j k (by simpa using hj) (by simpa using hk) e]
theorem lwE_of : ∀ {L : List (List Tm)} {seen : List Int}, (∀ k, k < L.length → L.getD k [] ≠ [] ∧ low (L.getD k []) ∉ seen) → (∀ j k, j < L.length → k < L.length → low (L.getD j []) = low (L.getD k []) → j = k) → lwE L seen = 0
  | [], _, _, _ => rfl
  | c :: L, seen, a, b => by
    unfold lwE
    have h0 : c ≠ [] ∧ ¬ low c ∈ seen := a 0 (by simp)
    rw [if_neg h0.1, if_neg h0.2]
    refine lwE_of (fun k hk => ?_) (fun j k hj hk e => ?_)
    · have h1 := a (k + 1) (by simp only [List.length_cons]; omega)
      refine ⟨h1.1, fun hm => ?_⟩
      rcases List.mem_cons.1 hm with e | e
      · have := b (k + 1) 0 (by simp only [List.length_cons]; omega) (by simp) e
        omega
      · exact h1.2 e
    · have := b (j + 1) (k + 1) (by simp only [List.length_cons]; omega) (by simp only [List.length_cons]; omega) e
      omega
theorem lwE_ind {p : Int} {L : List (List Tm)} (hL : Cols p L) : lwE L [] = 0 ↔ Ind p L :=
  ⟨fun h => ⟨hL, fun k hk => ((lwE_zero h).1 k hk).1, (lwE_zero h).2⟩, fun h => lwE_of (fun k hk => ⟨h.full k hk, by simp⟩) h.inj⟩
/-- Block k tells of each row whether it has come. -/
structure SeenB (w : World) (k : Nat) (S : List Int) : Prop where
  lt : k < w.heap.size
  cell : ∀ i : Nat, i < 1024 → w.cell? ⟨k, i, none⟩ = some (.bool (decide ((i : Int) ∈ S)))
  free : ∀ i : Nat, w.frozen? ⟨k, i, none⟩ = false
theorem false_at : ∀ i : Nat, i < 1024 → Tryd.zeroCells105[i]? = some (.bool false) := by
  have e : Tryd.zeroCells105 = Array.replicate 1024 (.bool false) := by kernel_rfl
  intro i hi
  rw [e, Array.getElem?_replicate, if_pos hi]
theorem SeenB.new (w : World) (t : TypeId) : SeenB (w.alloc (.cells Tryd.zeroCells105 t)) w.heap.size [] :=
  ⟨by simp, fun i hi => by rw [World.cell?_alloc_at _ _ _ _ rfl, false_at i hi]; simp, fun i => World.frozen?_alloc_new _ _ _ _⟩
theorem SeenB.set {w : World} {k : Nat} {S : List Int} (h : SeenB w k S) {r : Nat} (hr : r < 1024) : SeenB (w.setCell ⟨k, r, none⟩ (.bool true)) k ((r : Int) :: S) := by
  refine ⟨by simp [World.setCell]; exact h.lt, fun i hi => ?_, fun i => by rw [World.frozen?_setCell]; exact h.free i⟩
  by_cases e : i = r
  · subst e
    rw [World.cell?_setCell_same' _ _ _ (by rw [h.cell i hi]; rfl)]
    simp
  · rw [World.cell?_setCell_other w _ _ _ (by intro c; injection c with _ c; omega), h.cell i hi]
    have : ((i : Int) ∈ (r : Int) :: S) ↔ (i : Int) ∈ S := by
      rw [List.mem_cons]
      exact ⟨fun g => g.elim (fun g => by omega) id, .inr⟩
    simp [this]
theorem low_lows {L : List (List Tm)} {k : Nat} (h : k < L.length) : ((L.take (k + 1)).map low).reverse = low L[k] :: ((L.take k).map low).reverse := by
  rw [show L.take (k + 1) = L.take k ++ [L[k]] by rw [List.take_append_getElem], List.map_append, List.reverse_append]
  rfl
theorem lwE_drop {L : List (List Tm)} {k : Nat} (h : k < L.length) : lwE (L.drop k) ((L.take k).map low).reverse = if L[k] = [] then 9 else if low L[k] ∈ ((L.take k).map low).reverse then 5 else lwE (L.drop (k + 1)) ((L.take (k + 1)).map low).reverse := by
  rw [low_lows h, List.drop_eq_getElem_cons h]
  rfl
set_option maxHeartbeats 2000000 in
set_option maxRecDepth 100000 in
theorem checkLows_any (p : Int) (v : Value) (L : List (List Tm)) (w : World) (hL : ListV w v L) (cL : Cols p L) : Calls Tryd.prog 67 #[v] w fun e w' => e = .returned (.int .i64 (lwE L [])) ∧ Below w.heap.size w w' := by
  obtain ⟨a, n, rfl, a1, a2, a3⟩ := hL
  unfold maxLen at a2
  go_enter Tryd.func67, Tryd.ntmps67
  go_wp2
  obtain ⟨W0, hW0⟩ : ∃ W0, W0 = w.alloc (.cells Tryd.zeroCells105 105) := ⟨_, rfl⟩
  have S0 : SeenB W0 w.heap.size [] := by rw [hW0]; exact SeenB.new w _
  have B0 : Below w.heap.size w W0 := by rw [hW0]; exact (Below.refl _ w).alloc (Nat.le_refl _) _
  rw [← hW0]
  clear hW0
  go_loopw [10] (fun i wr => ∃ k : Nat, k ≤ L.length ∧ i = .int .i64 k ∧ SeenB wr w.heap.size ((L.take k).map low).reverse ∧ lwE L [] = lwE (L.drop k) ((L.take k).map low).reverse ∧ Below w.heap.size w wr) (fun i _ => L.length - (intOf i).toNat)
  case atStart => exact ⟨0, Nat.zero_le _, rfl, S0, rfl, B0⟩
  case round =>
    clear S0 B0
    obtain ⟨k, hk, rfl, hS, hE, hB⟩ := hrel
    by_cases hlt : k < L.length
    · obtain ⟨g, o, rfl, hg, hc⟩ := a3 (by omega)
      obtain ⟨u, d0, hT⟩ := hc k hlt
      replace d0 := (hB.cell (p := ⟨g, o + k, none⟩) hg).trans d0
      have hcol := cL _ (List.getElem_mem hlt)
      rw [lwE_drop hlt] at hE
      have hll := low_lows hlt
      obtain ⟨c, hc2⟩ : ∃ c, c = L[k] := ⟨_, rfl⟩
      rw [← hc2] at hT hcol hE hll
      have CL := Lib.hid (low_any u c wr (hT.below hB))
      have hlb : c ≠ [] → 0 ≤ low c ∧ low c < 1024 := fun h => ⟨(low_props hcol h).2.1, (low_props hcol h).2.2.1⟩
      obtain ⟨lo, hlo⟩ : ∃ lo, lo = low c := ⟨_, rfl⟩
      obtain ⟨bb, hbb⟩ : ∃ bb, bb = decide (c ≠ []) := ⟨_, rfl⟩
      rw [← hlo] at CL hE hll hlb
      rw [← hbb] at CL
      have HLL := Lib.hid hll
      have HE := Lib.hid hE
      have HS := Lib.hid hS
      have HB := Lib.hid hB
      by_cases h0 : c = []
      · have : bb = false := by rw [hbb]; simp [h0]
        subst this
        have HE2 := Lib.hid (show lwE L [] = 9 from by rw [HE.out, if_pos h0])
        clear hc a3 hT hcol hc2 hlo hbb hlb hll hE hS hB h0 HE
        go_wp2_with fail
        refine Calls.mono CL.out ?_
        rintro e w' ⟨rfl, rfl⟩
        go_wp2
        go_ret
        exact ⟨ret_int HE2.out.symm, HB.out⟩
      · have : bb = true := by rw [hbb]; exact decide_eq_true h0
        subst this
        obtain ⟨r1, r2⟩ := hlb h0
        obtain ⟨r, rfl⟩ := Int.eq_ofNat_of_zero_le r1
        have x0 := hS.cell r (by omega)
        have x1 := hS.free r
        obtain ⟨se, hse⟩ : ∃ se, se = decide ((r : Int) ∈ ((L.take k).map low).reverse) := ⟨_, rfl⟩
        rw [← hse] at x0
        cases hq : se with
        | true =>
          have HE2 := Lib.hid (show lwE L [] = 5 from by rw [HE.out, if_neg h0, if_pos (of_decide_eq_true (hse.symm.trans hq))])
          rw [hq] at x0
          clear hc a3 hT hcol hc2 hlo hbb hlb hll hE hS hB h0 HE hse hq
          go_wp2_with fail
          refine Calls.mono CL.out ?_
          rintro e w' ⟨rfl, rfl⟩
          go_wp2
          go_ret
          exact ⟨ret_int HE2.out.symm, HB.out⟩
        | false =>
          have HE2 := Lib.hid (show lwE L [] = lwE (L.drop (k + 1)) ((L.take (k + 1)).map low).reverse from by rw [HE.out, if_neg h0, if_neg (of_decide_eq_false (hse.symm.trans hq))])
          rw [hq] at x0
          clear hc a3 hT hcol hc2 hlo hbb hlb hll hE hS hB h0 HE hse hq
          go_wp2_with fail
          refine Calls.mono CL.out ?_
          rintro e w' ⟨rfl, rfl⟩
          go_wp2
          exact ⟨⟨k + 1, by omega, by go_num, by rw [HLL.out]; exact HS.out.set (by omega), HE2.out, HB.out.setCell (p := ⟨w.heap.size, r, none⟩) (Nat.le_refl _) _⟩, by simp [intOf]; omega⟩
    · have hkx : k = L.length := by omega
      have HE := Lib.hid (show lwE L [] = 0 from by rw [hE, hkx, List.drop_length]; rfl)
      have HB := Lib.hid hB
      clear hE hB hS a3
      go_wp2
      go_ret
      exact ⟨ret_int HE.out.symm, HB.out⟩
end Go.Proofs.YtdhcffboaiajeaaDoor
