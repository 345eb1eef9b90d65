/-
  An array of three columns that came in.
-/
import Derived.Test.YtdhcffboaiajeaaDoorCardKit
import Derived.Test.YtdhcffboaiajeaaDoorKern2
import Derived.Laws.IdiomArrays
namespace Go.Proofs.YtdhcffboaiajeaaDoor
open Go.ChangeShapes Go.WideShapes Go.ChangeAt Go.RowKit M
set_option maxRecDepth 100000
namespace kit
theorem undArr : Tryd.prog.underlying 56 = some (.array 3 22) := by kernel_rfl
theorem cellsArr3 : Tryd.prog.cellsOf 56 = 3 := by kernel_rfl
theorem arr3_form {W : World} {r : Reach} {b0 : Nat} {v : Value} (h : Value.okWide Tryd.prog W r b0 56 v) : ∃ c0 c1 c2, v = .agg #[c0, c1, c2] := by
  unfold Value.okWide at h
  rw [undArr] at h
  obtain ⟨cs, h1, h2, _⟩ := h
  rw [cellsArr3] at h2
  obtain ⟨l⟩ := cs
  match l, h2 with
  | [c0, c1, c2], _ => exact ⟨c0, c1, c2, h1⟩
theorem arr3_open {H : Type} {enc : TypeId × Value → H} {W : World} {fuel : Nat} {c0 c1 c2 : Value} {x : DataW H × List MemPlace} (h : DataW.trod enc Tryd.prog W 0 (fun _ => true) true fuel 56 [c0, c1, c2] = some x) (hlt : ∀ y ∈ x.2, y.block < W.heap.size) :
    ∃ E0 E1 E2, TermsV W c0 E0 ∧ TermsV W c1 E1 ∧ TermsV W c2 E2 := by
  obtain ⟨y0, y1, y2, n, rfl, t0, t1, t2⟩ := trod_array3 undArr cellsCol h
  obtain ⟨E0, h0⟩ := terms_open t0 fun y hy => hlt y (by simp [hy])
  obtain ⟨E1, h1⟩ := terms_open t1 fun y hy => hlt y (by simp [hy])
  obtain ⟨E2, h2⟩ := terms_open t2 fun y hy => hlt y (by simp [hy])
  exact ⟨E0, E1, E2, h0, h1, h2⟩
end kit
end Go.Proofs.YtdhcffboaiajeaaDoor
