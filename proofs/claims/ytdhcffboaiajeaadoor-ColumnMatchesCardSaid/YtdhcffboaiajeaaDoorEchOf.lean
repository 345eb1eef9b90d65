/-
  What echelonOf returns.
-/
import Derived.Test.YtdhcffboaiajeaaDoorEch
namespace Go.Proofs.YtdhcffboaiajeaaDoor
open Go.RowKit M
open Go.Maps

/-- An echelon of the call's own is handed back. -/
def GivesE (p : Int) (E : List (List Tm)) (w : World) (e : Ending) (w' : World) : Prop := ∃ s m v, e = .returned (.pointer (some ⟨s, 0, none⟩)) ∧ EchV w' w.heap.size s m [s, m] v p E ∧ Below w.heap.size w w'
theorem take_getD {L : List (List Tm)} {j k : Nat} (h : j < k) : (L.take k).getD j [] = L.getD j [] := by
  rw [List.getD_eq_getElem?_getD, List.getD_eq_getElem?_getD, List.getElem?_take, if_pos h]
set_option maxHeartbeats 1000000 in
set_option maxRecDepth 100000 in
theorem echelonOf_any (p : Int) (v : Value) (L : List (List Tm)) (w : World) (hL : ListV w v L) (hI : Ind p L) (hlen : L.length ≤ 1024) : Calls Tryd.prog 68 #[.int .i64 p, v] w (GivesE p L w) := by
  have hmm := @run_makeMap Tryd.prog
  obtain ⟨a, n, rfl, a1, a2, a3⟩ := hL
  unfold maxLen at a2
  go_enter Tryd.func68, Tryd.ntmps68
  go_wp2
  obtain ⟨W0, hW0⟩ : ∃ W0, W0 = (w.alloc (.map #[] 0)).alloc (.cells #[.int .i64 p, .slice none 0 0, .map (some w.heap.size)] 91) := ⟨_, rfl⟩
  have E0 : EchV W0 w.heap.size (w.heap.size + 1) w.heap.size [w.heap.size + 1, w.heap.size] (.slice none 0 0) p [] := by
    refine ⟨by simp, by simp, by omega, Nat.le_refl _, by omega, by rw [hW0]; simp, ?_, ?_, ?_, ?_, OwnC.nil _ _ _, ⟨.map [], ?_, ?_, fun k hk => absurd hk (by simp)⟩⟩
    · rw [hW0, World.cell?_alloc_at _ _ _ _ (by simp)]; rfl
    · rw [hW0, World.cell?_alloc_at _ _ _ _ (by simp)]; rfl
    · rw [hW0, World.cell?_alloc_at _ _ _ _ (by simp)]; rfl
    · rw [hW0]
      simp
    · rw [hW0]; exact (World.ownsMap_made _ _ _ _).alloc _
    · intro r
      refine ⟨fun h => ?_, fun ⟨k, h, _⟩ => absurd h (by simp)⟩
      simp [Maps.has] at h
  have B0 : Below w.heap.size w W0 := by rw [hW0]; exact ((Below.refl _ w).alloc (Nat.le_refl _) _).alloc (by simp) _
  rw [← hW0]
  clear hW0 hmm
  go_loopw [14] (fun i wr => ∃ (k : Nat) (v' : Value), k ≤ L.length ∧ i = .int .i64 k ∧ EchV wr w.heap.size (w.heap.size + 1) w.heap.size [w.heap.size + 1, w.heap.size] v' p (L.take k) ∧ Below w.heap.size w wr) (fun i _ => L.length - (intOf i).toNat)
  case atStart => exact ⟨0, _, Nat.zero_le _, rfl, E0, B0⟩
  case round =>
    clear E0 B0
    obtain ⟨k, v', hk, rfl, hE, hB⟩ := hrel
    by_cases hlt : k < L.length
    · obtain ⟨g, o, rfl, hg, hc⟩ := a3 (by omega)
      obtain ⟨u, d0, hT⟩ := hc k hlt
      replace d0 := (hB.cell (p := ⟨g, o + k, none⟩) hg).trans d0
      have htk : L.take (k + 1) = L.take k ++ [L[k]] := by rw [List.take_append_getElem]
      have hgk : L.getD k [] = L[k] := by rw [List.getD_eq_getElem?_getD, List.getElem?_eq_getElem hlt]; rfl
      have hcol := hI.cols.at_ k
      have hful := hI.full k hlt
      have hinj : ∀ j, j < (L.take k).length → low ((L.take k).getD j []) ≠ low (L.getD k []) := fun j hj e => by
        rw [List.length_take] at hj
        rw [take_getD (by omega)] at e
        have := hI.inj j k (by omega) hlt e
        omega
      rw [hgk] at hcol hful hinj
      have hub : ∀ j, u.ownBlock = some j → j < w.heap.size := hT.lt hful
      have JA := Lib.hid (join_any w.heap.size (w.heap.size + 1) w.heap.size [w.heap.size + 1, w.heap.size] v' u p (L.take k) _ wr hE (fun g hg => by
        have h1 := hE.lt
        have h2 := hE.map.lt
        simp only [List.mem_cons, List.not_mem_nil, or_false] at hg
        omega) hB.size (hT.below hB) hcol hful (fun j hj => by
        have h1 := hub j hj
        refine ⟨fun e => by have := (hE.row.lt j e).1; omega, ?_⟩
        simp only [List.mem_cons, List.not_mem_nil, or_false]
        omega) hinj (by rw [List.length_take]; omega))
      have HB := Lib.hid hB
      have hvB : ∀ g, v'.ownBlock = some g → w.heap.size ≤ g := fun g e => (hE.row.lt g e).1
      clear hc a3 hT hB hE hcol hful hinj hub
      go_wp2_with (go_at_call 81; refine Calls.mono JA.out ?_; rintro e w2 ⟨rfl, v2, hE2, hO2⟩)
      exact ⟨⟨k + 1, v2, by omega, by go_num, by rw [htk]; exact hE2, HB.out.trans (hO2.below (by omega) (Nat.le_refl _) hvB HB.out.size)⟩, by simp [intOf]; omega⟩
    · have hkx : k = L.length := by omega
      rw [hkx, List.take_length] at hE
      have HE := Lib.hid hE
      have HB := Lib.hid hB
      clear hE hB a3
      go_wp2
      go_ret
      exact ⟨_, _, _, rfl, HE.out, HB.out⟩
end Go.Proofs.YtdhcffboaiajeaaDoor
