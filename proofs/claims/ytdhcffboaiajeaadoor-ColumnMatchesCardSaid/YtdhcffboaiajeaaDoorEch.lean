/-
  An echelon as a world holds it, and what join does.
-/
import Derived.Test.YtdhcffboaiajeaaDoorDense
import Derived.Maps.OwnSet
import Derived.RangeFuncBox
import Derived.Maps.OwnOps
import Derived.Maps.Views
import Derived.Maps.AppendAt
namespace Go.Proofs.YtdhcffboaiajeaaDoor
open Go.RowKit M
open Go.Maps

theorem lawI : Keyed Tryd.prog 3 := int_keyed Tryd.underlying3
theorem zeroI (w : World) : (zeroValue 3).run Tryd.prog w = .ok (.int .i64 0) w := by kernel_rfl
/-- A list of columns in a row of the call's own, apart from the blocks of S. -/
structure OwnC (W : World) (B : Nat) (v : Value) (E : List (List Tm)) (S : List Nat) : Prop where
  ex : ∃ ts : List Value, ts.length = E.length ∧ W.ownsRow B 22 1 v E.length ts ∧ ∀ i, i < E.length → TermsV W (ts.getD i undef) (E.getD i []) ∧ (E.getD i [] ≠ [] → ∀ g, (ts.getD i undef).ownBlock = some g → v.ownBlock ≠ some g ∧ g ∉ S)
  far : ∀ g, v.ownBlock = some g → g ∉ S
theorem OwnC.nil (W : World) (B : Nat) (S : List Nat) : OwnC W B (.slice none 0 0) [] S :=
  ⟨⟨[], rfl, World.ownsRow_nil _ _ _ _, fun i hi => absurd hi (by simp)⟩, fun g hg => by simp [Value.ownBlock] at hg⟩
theorem OwnC.lt {W : World} {B : Nat} {v : Value} {E : List (List Tm)} {S : List Nat} (h : OwnC W B v E S) : ∀ k, v.ownBlock = some k → B ≤ k ∧ k < W.heap.size := by
  obtain ⟨ts, -, ho, -⟩ := h.ex
  exact ho.lt
/-- Blocks of S may turn. -/
theorem OwnC.by {W W' : World} {B : Nat} {v : Value} {E : List (List Tm)} {S : List Nat} (h : OwnC W B v E S) (hz : W.heap.size ≤ W'.heap.size) (hk : ∀ k, k < W.heap.size → k ∉ S → W'.heap[k]? = W.heap[k]?) : OwnC W' B v E S := by
  obtain ⟨ts, hl, ho, hi⟩ := h.ex
  refine ⟨⟨ts, hl, ⟨ho.1, ?_⟩, fun i hi' => ⟨(hi i hi').1.by hz fun h0 g hg hlt => hk g hlt ((hi i hi').2 h0 g hg).2, (hi i hi').2⟩⟩, h.far⟩
  rcases ho.2 with hn | ⟨g, cap, cur, rfl, hB, hg, rest⟩
  · exact .inl hn
  · refine .inr ⟨g, cap, cur, rfl, hB, ?_, rest⟩
    rw [hk g (Array.getElem?_eq_some_iff.1 hg).1 (h.far g rfl)]
    exact hg
theorem OwnC.below {W W' : World} {B : Nat} {v : Value} {E : List (List Tm)} {S : List Nat} (h : OwnC W B v E S) (hb : Below W.heap.size W W') : OwnC W' B v E S := h.by hb.size fun k hk _ => hb.block k hk
theorem OwnC.listV {W : World} {B : Nat} {v : Value} {E : List (List Tm)} {S : List Nat} (h : OwnC W B v E S) : ListV W v E := by
  obtain ⟨ts, hl, ho, hi⟩ := h.ex
  have ho' := ho
  rcases ho.2 with ⟨rfl, hn⟩ | ⟨g, cap, cur, rfl, hB, hg, hc, hm, -, -⟩
  · exact ⟨none, 0, by rw [hn], by omega, Nat.zero_le _, fun h0 => absurd h0 (by omega)⟩
  · refine ⟨some ⟨g, 0, none⟩, cap, rfl, hc, hm, fun _ => ⟨g, 0, rfl, (Array.getElem?_eq_some_iff.1 hg).1, fun i hi' => ?_⟩⟩
    have hcell := ho'.cells (g := g) rfl i (ts.getD i undef) (by rw [List.getD_eq_getElem?_getD, List.getElem?_eq_getElem (by omega)]; rfl)
    rw [Addr.add_lit] at hcell
    have hT := (hi i hi').1
    have e : E.getD i [] = E[i] := by rw [List.getD_eq_getElem?_getD, List.getElem?_eq_getElem hi']; rfl
    rw [e] at hT
    exact ⟨_, hcell, hT⟩
/-- One column more: what the append leaves. -/
theorem OwnC.snoc {W W1 : World} {B : Nat} {v v' : Value} {E : List (List Tm)} {S : List Nat} {u : Value} {c : List Tm} {ts : List Value} (hl : ts.length = E.length)
    (hi : ∀ i, i < E.length → TermsV W (ts.getD i undef) (E.getD i []) ∧ (E.getD i [] ≠ [] → ∀ g, (ts.getD i undef).ownBlock = some g → v.ownBlock ≠ some g ∧ g ∉ S)) (hfar : ∀ g, v.ownBlock = some g → g ∉ S)
    (hT : TermsV W u c) (hu : c ≠ [] → ∀ g, u.ownBlock = some g → v.ownBlock ≠ some g ∧ g ∉ S)
    (hS : ∀ g, g ∈ S → g < W.heap.size) (o : Obj) (hown : W1.ownsRow B 22 1 v' (E.length + 1) (ts ++ [u])) (hg : (W.alloc o).grownBy W1 v.ownBlock) (hloc : v'.ownBlock = v.ownBlock ∨ v'.ownBlock = some (W.alloc o).heap.size) : OwnC W1 B v' (E ++ [c]) S := by
  have key : ∀ (x : Value) (d : List Tm), TermsV W x d → (d ≠ [] → ∀ g, x.ownBlock = some g → v.ownBlock ≠ some g ∧ g ∉ S) → TermsV W1 x d ∧ (d ≠ [] → ∀ g, x.ownBlock = some g → v'.ownBlock ≠ some g ∧ g ∉ S) := by
    intro x d hx hd
    refine ⟨(hx.alloc o).grown hg (fun h0 k e => (hd h0 k e).1), fun h0 g e => ⟨?_, (hd h0 g e).2⟩⟩
    have := hx.lt h0 g e
    rcases hloc with h | h
    · rw [h]; exact (hd h0 g e).1
    · rw [h]
      intro e2
      injection e2 with e2
      simp at e2
      omega
  refine ⟨⟨ts ++ [u], by simp [hl], by rw [List.length_append]; exact hown, fun i h => ?_⟩, fun g e => ?_⟩
  · rw [List.length_append, List.length_singleton] at h
    by_cases hlt : i < E.length
    · have e1 : (ts ++ [u]).getD i undef = ts.getD i undef := by rw [List.getD_eq_getElem?_getD, List.getD_eq_getElem?_getD, List.getElem?_append_left (by omega)]
      rw [e1, getD_append_left hlt]
      exact key _ _ (hi i hlt).1 (hi i hlt).2
    · have e0 : i = E.length := by omega
      have e1 : (ts ++ [u]).getD i undef = u := by rw [e0, List.getD_eq_getElem?_getD, List.getElem?_append_right (by omega)]; simp [hl]
      rw [e1, e0, getD_append_end]
      exact key _ _ hT hu
  · rcases hloc with h | h
    · rw [h] at e; exact hfar g e
    · rw [h] at e
      injection e with e
      intro hm
      have := hS g hm
      simp at e
      omega
/-- The map of the low rows. -/
structure LowM (W : World) (m : Nat) (E : List (List Tm)) : Prop where
  ex : ∃ D : DataW Unit, W.ownsMap Tryd.prog 3 (plainElem (H := Unit) Tryd.prog 3) m E.length D ∧ (∀ r : Int, Maps.has D (.int .i64 r) = true ↔ ∃ k, k < E.length ∧ low (E.getD k []) = r) ∧ ∀ k, k < E.length → D.atKey (.int .i64 (low (E.getD k []))) (.lit (.int .i64 0)) = .lit (.int .i64 k)
theorem LowM.by {W W' : World} {m : Nat} {E : List (List Tm)} (h : LowM W m E) {row : Option Nat} (hg : W.grownBy W' row) (hne : some m ≠ row) : LowM W' m E := by
  obtain ⟨D, h1, h2, h3⟩ := h.ex
  exact ⟨D, h1.kept hg hne, h2, h3⟩
theorem LowM.lt {W : World} {m : Nat} {E : List (List Tm)} (h : LowM W m E) : m < W.heap.size := by
  obtain ⟨D, h1, -⟩ := h.ex
  exact h1.lt
theorem below_none {w w' : World} (h : Below w.heap.size w w') : w.grownBy w' none := ⟨h.os, h.tape, h.output, h.size, fun k hk _ => h.block k hk⟩
/-- The echelon in box s, with the map in block m and the columns in v, all of the call's own from block B on. -/
structure EchV (W : World) (B s m : Nat) (S : List Nat) (v : Value) (p : Int) (E : List (List Tm)) : Prop where
  ins : s ∈ S
  inm : m ∈ S
  bs : B ≤ s
  bm : B ≤ m
  ne : s ≠ m
  lt : s < W.heap.size
  c0 : W.cell? ⟨s, 0, none⟩ = some (.int .i64 p)
  c1 : W.cell? ⟨s, 1, none⟩ = some v
  c2 : W.cell? ⟨s, 2, none⟩ = some (.map (some m))
  f1 : W.frozen? ⟨s, 1, none⟩ = false
  row : OwnC W B v E S
  map : LowM W m E
theorem EchV.below {W W' : World} {B s m : Nat} {S : List Nat} {v : Value} {p : Int} {E : List (List Tm)} (h : EchV W B s m S v p E) (hb : Below W.heap.size W W') : EchV W' B s m S v p E :=
  ⟨h.ins, h.inm, h.bs, h.bm, h.ne, Nat.lt_of_lt_of_le h.lt hb.size, (hb.cell (p := ⟨s, 0, none⟩) h.lt).trans h.c0, (hb.cell (p := ⟨s, 1, none⟩) h.lt).trans h.c1, (hb.cell (p := ⟨s, 2, none⟩) h.lt).trans h.c2, (hb.frozen (p := ⟨s, 1, none⟩) h.lt).trans h.f1, h.row.below hb, h.map.by (below_none hb) (by simp)⟩
theorem OwnC.swap {W : World} {B : Nat} {v : Value} {E : List (List Tm)} {S S' : List Nat} (h : OwnC W B v E S) (hS : ∀ g, g ∈ S' → g ∈ S ∨ W.heap.size ≤ g) : OwnC W B v E S' := by
  have key : ∀ g, g < W.heap.size → g ∉ S → g ∉ S' := fun g hg hn hm => (hS g hm).elim hn (fun h => by omega)
  obtain ⟨ts, hl, ho, hi⟩ := h.ex
  exact ⟨⟨ts, hl, ho, fun i hi' => ⟨(hi i hi').1, fun h0 g e => ⟨((hi i hi').2 h0 g e).1, key g ((hi i hi').1.lt h0 g e) ((hi i hi').2 h0 g e).2⟩⟩⟩, fun g e => key g (h.lt g e).2 (h.far g e)⟩
theorem EchV.swap {W : World} {B s m : Nat} {S S' : List Nat} {v : Value} {p : Int} {E : List (List Tm)} (h : EchV W B s m S v p E) (hS : ∀ g, g ∈ S' → g ∈ S ∨ W.heap.size ≤ g) (hs : s ∈ S') (hm : m ∈ S') : EchV W B s m S' v p E :=
  ⟨hs, hm, h.bs, h.bm, h.ne, h.lt, h.c0, h.c1, h.c2, h.f1, h.row.swap hS, h.map⟩
/-- What join leaves: but for the echelon's own blocks all is as it was. -/
structure Outs (w w' : World) (s m : Nat) (v v' : Value) : Prop where
  os : w'.os = w.os
  tape : w'.tape = w.tape
  output : w'.output = w.output
  size : w.heap.size ≤ w'.heap.size
  block : ∀ k, k < w.heap.size → k ≠ s → k ≠ m → v.ownBlock ≠ some k → w'.heap[k]? = w.heap[k]?
  loc : v'.ownBlock = v.ownBlock ∨ ∀ g, v'.ownBlock = some g → w.heap.size ≤ g
theorem Outs.below {w w' : World} {s m B : Nat} {v v' : Value} (h : Outs w w' s m v v') (hs : B ≤ s) (hm : B ≤ m) (hv : ∀ g, v.ownBlock = some g → B ≤ g) (hB : B ≤ w.heap.size) : Below B w w' :=
  ⟨h.os, h.tape, h.output, h.size, fun k hk => h.block k (by omega) (by omega) (by omega) (fun e => by have := hv k e; omega)⟩
set_option maxHeartbeats 1000000 in
set_option maxRecDepth 100000 in
theorem join_any (B s m : Nat) (S : List Nat) (v u : Value) (p : Int) (E : List (List Tm)) (c : List Tm) (w : World) (hE : EchV w B s m S v p E) (hS : ∀ g, g ∈ S → g < w.heap.size) (hB : B ≤ w.heap.size) (hT : TermsV w u c) (hc : Col p c) (h0 : c ≠ []) (hu : ∀ g, u.ownBlock = some g → v.ownBlock ≠ some g ∧ g ∉ S) (hlow : ∀ k, k < E.length → low (E.getD k []) ≠ low c) (hlen : E.length ≤ 2000) :
    Calls Tryd.prog 81 #[.pointer (some ⟨s, 0, none⟩), u] w fun e w' => e = .returned (.tuple #[]) ∧ ∃ v', EchV w' B s m S v' p (E ++ [c]) ∧ Outs w w' s m v v' := by
  obtain ⟨-, l1, l2, -⟩ := low_props hc h0
  have CL := Lib.hid (low_some u c w hT h0)
  obtain ⟨lo, hlo⟩ : ∃ lo, lo = low c := ⟨_, rfl⟩
  rw [← hlo] at CL l1 l2 hlow
  have HLO := Lib.hid hlo
  clear hlo
  obtain ⟨D, hD, hD1, hD2⟩ := hE.map.ex
  obtain ⟨ts, hl, hrow, hi⟩ := hE.row.ex
  obtain ⟨va, vn, hva⟩ : ∃ va vn, v = .slice va E.length vn := by
    rcases hrow.2 with ⟨rfl, hn⟩ | ⟨g, cap, cur, rfl, -⟩
    · exact ⟨none, 0, by rw [hn]⟩
    · exact ⟨_, _, rfl⟩
  subst hva
  obtain ⟨ua, un, hua⟩ : ∃ ua un, u = .slice ua c.length un := by
    obtain ⟨a, n, e, -⟩ := hT
    exact ⟨a, n, e⟩
  subst hua
  have e0 := hE.c0
  have e1 := hE.c1
  have e2 := hE.c2
  have g1 := hE.f1
  have hfs : ∀ g, (Value.slice va E.length vn).ownBlock = some g → g ∉ S := hE.row.far
  have hst : some s ≠ (Value.slice va E.length vn).ownBlock := fun e => hfs s e.symm hE.ins
  have hmt : some m ≠ (Value.slice va E.length vn).ownBlock := fun e => hfs m e.symm hE.inm
  have hvB : ∀ g, (Value.slice va E.length vn).ownBlock = some g → B ≤ g := fun g e => (hrow.lt g e).1
  obtain ⟨i0, hi0, hz0, hz1, hz2⟩ := info_parts (show (Tryd.prog.info? 22).map (fun i => (i.zero, i.size, i.bytes)) = some (some (.slice none 0 0), 1, 24) by kernel_rfl)
  have hwf : (Lit.int .i64 lo).wf = true := WalkArith.wf_i64 (by omega)
  have hwf2 : (Lit.int .i64 (E.length : Int)).wf = true := WalkArith.wf_i64 (by omega)
  go_enter Tryd.func81, Tryd.ntmps81
  go_wp2_with fail
  refine Calls.mono CL.out ?_
  rintro e w' ⟨rfl, rfl⟩
  go_wp2_with fail
  go_still_tail 10, (by kernel_rfl)
  change wpList _ _ _ _ _ w.drew
  go_wp2_with (first | (at_mapUpdate; go_loud (refine wpList_mapUpdate_own _ rfl _ _ _ 89 rfl 3 3 lawI Tryd.underlying89 _ m E.length D rfl hD.drew (by unfold maxLen; omega) _ _ _ rfl rfl (keyOf_int_mk Tryd.underlying3 hwf) _ [] (plainElem_int Tryd.underlying3 hwf2) ?_; intro w1 hM1 hg1; have e01 := hg1.cell (a := ⟨s, 0, none⟩) e0 (by intro e; injection e with e; exact hE.ne e); have e11 := hg1.cell (a := ⟨s, 1, none⟩) e1 (by intro e; injection e with e; exact hE.ne e); have e21 := hg1.cell (a := ⟨s, 2, none⟩) e2 (by intro e; injection e with e; exact hE.ne e); have g11 : w1.frozen? ⟨s, 1, none⟩ = false := (World.frozen?_of_block (a := ⟨s, 1, none⟩) (hg1.block s hE.lt (by intro e; injection e with e; exact hE.ne e))).trans g1; have hrow1 := hrow.drew.kept hg1 (.inr hmt.symm); have s1 : w.heap.size ≤ w1.heap.size := hg1.size; have lt1 : s < w1.heap.size := Nat.lt_of_lt_of_le hE.lt s1)) | (at_builtin; go_loud (refine wpList_append_own_at _ rfl _ _ 24 rfl B 22 i0 (.slice none 0 0) 1 24 Tryd.underlying24 hi0 hz0 hz1 hz2 rfl (by decide) _ _ _ rfl (hrow1.alloc _) ⟨w1.heap.size, 0, none⟩ 1 1 [.slice ua c.length un] rfl rfl (cell_one_new _ _ _) (by simp [Value.oneCell']) (by unfold maxLen; omega) (by omega) (by simp; omega) ?_; intro v' w2 hown' hgrow _ hloc; obtain ⟨g', cap', rfl⟩ := ownsRow_succ hown'; have e02 := hgrow.cell (a := ⟨s, 0, none⟩) ((World.grownBy_alloc w1 (.cells #[.slice ua c.length un] 22) none).cell e01 (by simp)) hst; have e12 := hgrow.cell (a := ⟨s, 1, none⟩) ((World.grownBy_alloc w1 (.cells #[.slice ua c.length un] 22) none).cell e11 (by simp)) hst; have e22 := hgrow.cell (a := ⟨s, 2, none⟩) ((World.grownBy_alloc w1 (.cells #[.slice ua c.length un] 22) none).cell e21 (by simp)) hst; have g12 : w2.frozen? ⟨s, 1, none⟩ = false := (World.frozen?_of_block (a := ⟨s, 1, none⟩) (hgrow.block s (by simp; omega) hst)).trans ((World.frozen?_of_block (a := ⟨s, 1, none⟩) (Below.heap_alloc w1 _ s lt1)).trans g11))) | fail)
  go_end0
  have hw1 : ∀ k, k < w.heap.size → k ≠ m → w1.heap[k]? = w.heap[k]? := fun k hk hne => hg1.block k hk (by intro e; injection e with e; exact hne e)
  have hi1 : ∀ i, i < E.length → TermsV w1 (ts.getD i undef) (E.getD i []) ∧ (E.getD i [] ≠ [] → ∀ g, (ts.getD i undef).ownBlock = some g → (Value.slice va E.length vn).ownBlock ≠ some g ∧ g ∉ S) := fun i h =>
    ⟨(hi i h).1.by s1 fun h0 g e hlt => hw1 g hlt (fun e2 => ((hi i h).2 h0 g e).2 (by rw [e2]; exact hE.inm)), (hi i h).2⟩
  have hT1 : TermsV w1 (.slice ua c.length un) c := hT.by s1 fun _ g e hlt => hw1 g hlt (fun e2 => (hu g e).2 (by rw [e2]; exact hE.inm))
  have ltm : m < w1.heap.size := hM1.lt
  have hC := OwnC.snoc hl hi1 hfs hT1 (fun _ => hu) (fun g hg => Nat.lt_of_lt_of_le (hS g hg) s1) (.cells #[.slice ua c.length un] 22) hown' hgrow hloc
  have hC2 : OwnC (w2.setCell ⟨s, 1, none⟩ (.slice (some ⟨g', 0, none⟩) (E.length + 1) cap')) B (.slice (some ⟨g', 0, none⟩) (E.length + 1) cap') (E ++ [c]) S :=
    hC.by (by simp [World.setCell]) fun k _ hk => Below.heap_setCell _ _ _ k (fun e => hk (by rw [e]; exact hE.ins))
  have hM2 : (w2.setCell ⟨s, 1, none⟩ (.slice (some ⟨g', 0, none⟩) (E.length + 1) cap')).ownsMap Tryd.prog 3 (plainElem (H := Unit) Tryd.prog 3) m (E.length + 1) (D.put (.int .i64 lo) (.lit (.int .i64 E.length))) :=
    (((hM1.alloc _).kept hgrow hmt).setCell (a := ⟨s, 1, none⟩) (fun e => hE.ne e.symm) _)
  have hgd : ∀ k, k < E.length → (E ++ [c]).getD k [] = E.getD k [] := fun k hk => getD_append_left hk
  have hLM : LowM (w2.setCell ⟨s, 1, none⟩ (.slice (some ⟨g', 0, none⟩) (E.length + 1) cap')) m (E ++ [c]) := by
    refine ⟨_, by rw [List.length_append]; exact hM2, fun r => ?_, fun k hk => ?_⟩
    · by_cases hr : r = lo
      · rw [hr]
        refine ⟨fun _ => ⟨E.length, by simp, by rw [getD_append_end, ← HLO.out]⟩, fun _ => has_put_same hD.isMap (show WideAt.IsKeyLit (Lit.int .i64 lo) from trivial) _⟩
      · rw [has_put_other (by intro e; injection e with _ e; exact hr e), hD1]
        constructor
        · rintro ⟨k, h1, h2⟩
          exact ⟨k, by simp; omega, by rw [hgd k h1]; exact h2⟩
        · rintro ⟨k, h1, h2⟩
          rw [List.length_append, List.length_singleton] at h1
          by_cases h3 : k < E.length
          · exact ⟨k, h3, by rw [← hgd k h3]; exact h2⟩
          · rw [show k = E.length by omega, getD_append_end, ← HLO.out] at h2
            exact absurd h2.symm hr
    · rw [List.length_append, List.length_singleton] at hk
      by_cases h3 : k < E.length
      · rw [hgd k h3, atKey_put_other (by intro e; injection e with _ e; exact hlow k h3 e)]
        exact hD2 k h3
      · rw [show k = E.length by omega, getD_append_end, ← HLO.out]
        exact atKey_put_same hD.isMap (show WideAt.IsKeyLit (Lit.int .i64 lo) from trivial) _ _
  have o0 : (⟨s, 1, none⟩ : Addr) ≠ ⟨s, 0, none⟩ := by intro e; injection e with _ e; omega
  have o2 : (⟨s, 1, none⟩ : Addr) ≠ ⟨s, 2, none⟩ := by intro e; injection e with _ e; omega
  have z2 : w1.heap.size ≤ w2.heap.size := by have := hgrow.size; simp at this; omega
  refine ⟨rfl, _, ⟨hE.ins, hE.inm, hE.bs, hE.bm, hE.ne, by simp only [World.setCell, Array.size_modify]; omega, (World.cell?_setCell_other _ _ _ _ o0).trans e02, World.cell?_setCell_same' _ _ _ (by rw [e12]; rfl), (World.cell?_setCell_other _ _ _ _ o2).trans e22, by rw [World.frozen?_setCell]; exact g12, hC2, hLM⟩, ?_⟩
  refine ⟨?_, ?_, ?_, by simp only [World.setCell, Array.size_modify]; omega, fun k hk h1 h2 h3 => ?_, ?_⟩
  · exact hgrow.os.trans hg1.os
  · exact hgrow.tape.trans hg1.tape
  · exact hgrow.output.trans hg1.output
  · refine (Below.heap_setCell _ _ _ k h1).trans ((hgrow.block k (by simp; omega) (fun e => h3 e.symm)).trans ((Below.heap_alloc w1 _ k (by omega)).trans (hw1 k hk h2)))
  · rcases hloc with h | h
    · exact .inl h
    · refine .inr fun g e => ?_
      rw [h] at e
      injection e with e
      simp at e
      omega
end Go.Proofs.YtdhcffboaiajeaaDoor
