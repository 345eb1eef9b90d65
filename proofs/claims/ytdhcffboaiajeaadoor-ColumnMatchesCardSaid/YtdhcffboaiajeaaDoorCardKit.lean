/-
  What the cards of package column's statements share: how columns, lists of columns and lists of integers that came in are opened.
-/
import Derived.Test.YtdhcffboaiajeaaDoorCards
import Derived.Test.YtdhcffboaiajeaaDoorTie
import Derived.Test.YtdhcffboaiajeaaDoorSparse
import Derived.ProofKit
import Derived.OpenShut
import Derived.Deep.DeepHandedRow
import Derived.Deep.SlicePairs
import Derived.Lib.LaidTab
import Derived.SizedLaws
namespace Go.Proofs.YtdhcffboaiajeaaDoor
open Go.ChangeShapes Go.WideShapes Go.ChangeAt Go.RowKit M

namespace kit
theorem own : ownKnob Tryd.prog.godebug = none := by kernel_rfl
theorem gTab : Tryd.prog.globalNamed "torus/modp.primes" = some 0 := by kernel_rfl
theorem gTabType : (Tryd.prog.globals[0]?).map (·.type) = some 95 := by kernel_rfl
theorem cellsArr : Tryd.prog.cellsOf 95 = 4 := by kernel_rfl
theorem cellsOne : Tryd.prog.cellsOf 94 = 1 := by kernel_rfl
theorem laidOut : laidOutB Tryd.prog = true := by kernel_rfl
theorem cellsInt : Tryd.prog.cellsOf 3 = 1 := by kernel_rfl
theorem cellsTm : Tryd.prog.cellsOf 37 = 2 := by kernel_rfl
theorem cellsCol : Tryd.prog.cellsOf 22 = 1 := by kernel_rfl
theorem tab_of {W : World} (t : Lib.TabIs Tryd.prog W "torus/modp.primes" .u64 [2891462833508853932, 9223979663092122248, 9234666804958202376, 577166812715155618]) : Tab W := by
  intro i hi
  match i, hi with
  | 0, _ => exact t.cell gTab 0 (by decide)
  | 1, _ => exact t.cell gTab 1 (by decide)
  | 2, _ => exact t.cell gTab 2 (by decide)
  | 3, _ => exact t.cell gTab 3 (by decide)
/-- The number in a value. -/
def num : Value → Int
  | .int _ n => n
  | _ => 0
section
variable {H : Type} {enc : TypeId × Value → H} {W : World}
theorem int_val {fuel : Nat} {v : Value} {x : DataW H × List MemPlace} (h : DataW.trod enc Tryd.prog W 0 (fun _ => true) true fuel 3 [v] = some x) : v = .int .i64 (num v) := by
  obtain ⟨n, hcs, -, -⟩ := DataW.trod_int Tryd.underlying3 h
  injection hcs with hv
  subst hv
  rfl
theorem terms_open {fuel : Nat} {v : Value} {x : DataW H × List MemPlace} (h : DataW.trod enc Tryd.prog W 0 (fun _ => true) true fuel 22 [v] = some x) (hlt : ∀ y ∈ x.2, y.block < W.heap.size) : ∃ c, TermsV W v c := by
  rcases Deep.open_slice_pairs Tryd.underlying22 Tryd.underlying37 cellsTm rfl rfl cellsInt cellsInt h with ⟨hcs, -⟩ | ⟨a, len, cap, m, n, V0, V1, D0, D1, P0, P1, hcs, -, hl, hm, hmm, hx, hcell⟩
  · injection hcs with hv
    subst hv
    exact ⟨[], TermsV.nil W⟩
  · injection hcs with hv
    subst hv
    simp only [if_true] at hmm
    refine ⟨(List.range len).map fun i => (num (V0 i), num (V1 i)), some a, cap, by simp, by simpa using hl, hm, fun h0 => ?_⟩
    have h0' : 0 < len := by simpa using h0
    obtain ⟨b, off, spot⟩ := a
    have hspot : spot = none := by simpa [Addr.add] using World.cell?_spot (hcell 0 (by omega)).1
    subst hspot
    refine ⟨b, off, rfl, hlt (.cell b off) (by rw [hx]; exact List.mem_append_left _ (MemPlace.mem_row.2 ⟨0, by omega, by simp⟩)), fun i hi => ?_⟩
    have hi' : i < len := by simpa using hi
    obtain ⟨e0, e1, t0, t1⟩ := hcell i (by omega)
    rw [int_val t0, add_plain] at e0
    rw [int_val t1, add_plain] at e1
    simp only [List.getElem_map, List.getElem_range]
    exact ⟨e0, by rw [Nat.add_assoc]; exact e1⟩
theorem list_open {fuel : Nat} {v : Value} {x : DataW H × List MemPlace} (h : DataW.trod enc Tryd.prog W 0 (fun _ => true) true fuel 24 [v] = some x) (hlt : ∀ y ∈ x.2, y.block < W.heap.size) : ∃ L, ListV W v L := by
  rcases Deep.open_slice1 Tryd.underlying24 cellsCol h with ⟨hcs, -⟩ | ⟨a, len, cap, m, n, V, D, Pl, hcs, -, hl, hm, hmm, hx, hcell⟩
  · injection hcs with hv
    subst hv
    exact ⟨[], ListV.nil W⟩
  · injection hcs with hv
    subst hv
    simp only [if_true] at hmm
    have each : ∀ i, i < len → ∃ c : List Tm, TermsV W (V i) c := fun i hi => by
      obtain ⟨-, t0⟩ := hcell i (by omega)
      exact terms_open t0 fun y hy => hlt y (by rw [hx]; exact List.mem_append_right _ (List.mem_flatMap.2 ⟨i, List.mem_range.2 (by omega), hy⟩))
    obtain ⟨C, hC⟩ := Deep.choose_lt each
    refine ⟨(List.range len).map C, some a, cap, by simp, by simpa using hl, hm, fun h0 => ?_⟩
    have h0' : 0 < len := by simpa using h0
    obtain ⟨b, off, spot⟩ := a
    have hspot : spot = none := by simpa [Addr.add] using World.cell?_spot (hcell 0 (by omega)).1
    subst hspot
    refine ⟨b, off, rfl, hlt (.cell b off) (by rw [hx]; exact List.mem_append_left _ (MemPlace.mem_row.2 ⟨0, by omega, by simp⟩)), fun i hi => ?_⟩
    have hi' : i < len := by simpa using hi
    have e0 := (hcell i (by omega)).1
    rw [add_plain] at e0
    simp only [List.getElem_map, List.getElem_range]
    exact ⟨V i, e0, hC i hi'⟩
theorem ints_open {fuel : Nat} {v : Value} {x : DataW H × List MemPlace} (h : DataW.trod enc Tryd.prog W 0 (fun _ => true) true fuel 41 [v] = some x) (hlt : ∀ y ∈ x.2, y.block < W.heap.size) : ∃ l, IntsV W v l := by
  rcases open_ints Tryd.underlying41 Tryd.underlying3 cellsInt h with ⟨hcs, -⟩ | ⟨a, len, cap, zs, hcs, -, hl, hm, hz, hx, hcell, -⟩
  · injection hcs with hv
    subst hv
    exact ⟨[], none, 0, rfl, Nat.le_refl _, Nat.zero_le _, fun h0 => absurd h0 (by simp)⟩
  · injection hcs with hv
    subst hv
    simp only [if_true] at hz
    have hlz : (zs.take len).length = len := by rw [List.length_take]; omega
    refine ⟨zs.take len, some a, cap, by rw [hlz], by rw [hlz]; exact hl, hm, fun h0 => ?_⟩
    have h0' : 0 < len := by omega
    obtain ⟨b, off, spot⟩ := a
    have hspot : spot = none := by simpa [Addr.add] using World.cell?_spot (hcell 0 (by omega))
    subst hspot
    refine ⟨b, off, rfl, hlt (.cell b off) (by rw [hx]; exact MemPlace.mem_row.2 ⟨0, by omega, by simp⟩), fun i hi => ?_⟩
    have e0 := hcell i (by omega)
    rw [add_plain, List.getD_eq_getElem?_getD, List.getElem?_eq_getElem (by omega)] at e0
    rw [List.getElem_take]
    exact e0
end
end kit
end Go.Proofs.YtdhcffboaiajeaaDoor
