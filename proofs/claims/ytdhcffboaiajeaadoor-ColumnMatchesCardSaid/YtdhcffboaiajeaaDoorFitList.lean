/-
  What the reference's FitList returns.
-/
import Derived.Test.YtdhcffboaiajeaaDoorFit
import Derived.Test.YtdhcffboaiajeaaDoorKern2
namespace Go.Proofs.YtdhcffboaiajeaaDoor
open Go.RowKit M
open Go.Maps

/-- A list of columns that Fit made. -/
structure FitL (p : Int) (R : List (List Tm)) : Prop where
  cols : Cols p R
  rows : ∀ c, c ∈ R → ∀ t, t ∈ c → t.1 < 10
theorem FitL.nil (p : Int) : FitL p [] := ⟨fun c hc => absurd hc (by simp), fun c hc => absurd hc (by simp)⟩
theorem FitL.snoc {p : Int} {R : List (List Tm)} {c : List Tm} (h : FitL p R) (hc : Col p c) (hr : ∀ t, t ∈ c → t.1 < 10) : FitL p (R ++ [c]) :=
  ⟨fun d hd => (List.mem_append.1 hd).elim (h.cols d) (fun g => by rw [List.mem_singleton.1 g]; exact hc), fun d hd => (List.mem_append.1 hd).elim (h.rows d) (fun g => by rw [List.mem_singleton.1 g]; exact hr)⟩
def GivesFL (p : Int) (w : World) (e : Ending) (w' : World) : Prop := ∃ v R, e = .returned v ∧ ListV w' v R ∧ FitL p R ∧ R.length ≤ 8 ∧ (∀ k, v.ownBlock = some k → w.heap.size ≤ k) ∧ Below w.heap.size w w'
set_option maxHeartbeats 1000000 in
set_option maxRecDepth 100000 in
theorem fitList_any (p : Int) (v : Value) (L : List (List Tm)) (w : World) (hp : pr p = true) (hL : ListV w v L) : Calls Tryd.prog 48 #[.int .i64 p, v, .int .i64 10, .int .i64 8] w (GivesFL p w) := by
  obtain ⟨i0, hi0, hz0, hz1, hz2⟩ := info_parts (show (Tryd.prog.info? 22).map (fun i => (i.zero, i.size, i.bytes)) = some (some (.slice none 0 0), 1, 24) by kernel_rfl)
  obtain ⟨a, n, rfl, a1, a2, a3⟩ := hL
  unfold maxLen at a2
  go_enter Tryd.func48, Tryd.ntmps48
  go_wp2
  go_loopw [9, 10] (fun v i wr => ∃ (k : Nat) (R : List (List Tm)), k ≤ L.length ∧ k ≤ 8 ∧ i = .int .i64 k ∧ OwnC wr w.heap.size v R [] ∧ R.length = k ∧ FitL p R ∧ Below w.heap.size w wr) (fun _ i _ => L.length - (intOf i).toNat)
  case atStart => exact ⟨0, [], Nat.zero_le _, Nat.zero_le _, rfl, OwnC.nil _ _ _, rfl, FitL.nil p, Below.refl _ _⟩
  case round =>
    obtain ⟨k, R, hk, hk8, rfl, hO, hRl, hF, hB⟩ := hrel
    by_cases hlt : k < L.length
    · by_cases h8 : k < 8
      · obtain ⟨g, o, rfl, hg, hc⟩ := a3 (by omega)
        obtain ⟨u, d0, hT⟩ := hc k hlt
        replace d0 := (hB.cell (p := ⟨g, o + k, none⟩) hg).trans d0
        have d1 : decide ((k : Int) < L.length) = true := decide_eq_true (by omega)
        have d2 : decide ((k : Int) < 8) = true := decide_eq_true (by omega)
        have CF := Lib.hid (fit_any p u L[k] wr hp (hT.below hB))
        have HB := Lib.hid hB
        have HO := Lib.hid hO
        have HF := Lib.hid hF
        clear hc a3 hT hB hO hF
        go_wp2_with fail
        refine Calls.mono CF.out ?_
        rintro e w2 ⟨v1, r, rfl, hT1, hc1, hr1, hf1, hb2⟩
        obtain ⟨r1a, r1n, rfl⟩ := slice_of hT1
        have O2 := HO.out.below hb2
        have B2 : Below w.heap.size w w2 := HB.out.trans (hb2.mono HB.out.size)
        obtain ⟨ts, hl, hrow, hi⟩ := O2.ex
        have hlt1 : ∀ g, u9.ownBlock = some g → g < wr.heap.size := fun g e => (HO.out.lt g e).2
        have hu : r ≠ [] → ∀ g, (Value.slice r1a r.length r1n).ownBlock = some g → u9.ownBlock ≠ some g ∧ g ∉ ([] : List Nat) := fun _ g e => ⟨fun e2 => by have h1 := hf1 g e; have h2 := hlt1 g e2; omega, by simp⟩
        have hzB : ∀ g, u9.ownBlock = some g → w.heap.size ≤ g := fun g e => (HO.out.lt g e).1
        have hbz := B2.size
        have HU := Lib.hid hu
        have HI5 := Lib.hid hi
        have HZB := Lib.hid hzB
        have HB2 := Lib.hid B2
        have HT1 := Lib.hid hT1
        have HO2 := Lib.hid O2
        have HF2 := Lib.hid (HF.out.snoc hc1 hr1)
        clear hu hi hzB B2 hT1 hc1 hr1 hf1 hb2 O2
        go_wp2_with (at_builtin; refine wpList_append_own_at _ rfl _ _ 24 rfl w.heap.size 22 i0 (.slice none 0 0) 1 24 Tryd.underlying24 hi0 hz0 hz1 hz2 rfl (by decide) _ _ _ rfl (hrow.alloc _) ⟨w2.heap.size, 0, none⟩ 1 1 [.slice r1a r.length r1n] rfl rfl (cell_one_new _ _ _) (by simp [Value.oneCell']) (by unfold maxLen; omega) (by omega) (by simp; omega) ?_; intro v' w7 hown' hgrow _ hloc)
        exact ⟨⟨k + 1, R ++ [r], by omega, by omega, by go_num, OwnC.snoc hl HI5.out HO2.out.far HT1.out HU.out (fun g hg => absurd hg (by simp)) _ hown' hgrow hloc, by simp; omega, HF2.out, HB2.out.grown ((World.grownBy_alloc w2 (.cells #[.slice r1a r.length r1n] 22) _).trans hgrow) hbz HZB.out⟩, by simp [intOf]; omega⟩
      · have h8' : k = 8 := by omega
        have R' := Lib.hid (show GivesFL p w (.returned u9) wr from ⟨_, R, rfl, hO.listV, hF, by omega, fun g e => (hO.lt g e).1, hB⟩)
        have d1 : decide ((k : Int) < L.length) = true := decide_eq_true (by omega)
        have d2 : decide ((k : Int) < 8) = false := decide_eq_false (by omega)
        clear hO hF hB a3
        go_wp2
        go_ret
        exact R'.out
    · have R' := Lib.hid (show GivesFL p w (.returned u9) wr from ⟨_, R, rfl, hO.listV, hF, by omega, fun g e => (hO.lt g e).1, hB⟩)
      have d1 : decide ((k : Int) < L.length) = false := decide_eq_false (by omega)
      clear hO hF hB a3
      go_wp2
      go_ret
      exact R'.out
end Go.Proofs.YtdhcffboaiajeaaDoor
