/-
  What plus returns: a row of the call's own; Add and Scale the same.
-/
import Derived.Test.YtdhcffboaiajeaaDoorApi
import Derived.Maps.AppendAt
namespace Go.Proofs.YtdhcffboaiajeaaDoor
open Go.RowKit Go.Shelf M

attribute [local go_sem] Oper.semAt_some

/-- A column in a row of the call's own is handed back. -/
def GivesO (c : List Tm) (w : World) (e : Ending) (w' : World) : Prop := ∃ v, e = .returned v ∧ w'.ownsRow w.heap.size 37 2 v c.length (flat2 c) ∧ Below w.heap.size w w'
/-- The same with an error number. -/
def GivesOE (c : List Tm) (n : Int) (w : World) (e : Ending) (w' : World) : Prop := ∃ v, e = .returned (.tuple #[v, .int .i64 n]) ∧ w'.ownsRow w.heap.size 37 2 v c.length (flat2 c) ∧ Below w.heap.size w w'
set_option maxRecDepth 100000 in
set_option maxHeartbeats 2000000 in
theorem plus_inO (n : Nat) (hn : 6 ≤ n) (p k : Int) (va vb : Value) (a b : List Tm) (w : World) (tb : Tab w) (hp : pr p = true) (hTa : TermsV w va a) (hTb : TermsV w vb b) (ca : Col p a) (cb : Col p b) (hla : a.length ≤ 1024) (hlb : b.length ≤ 1024) :
    CallsIn Fence.wide n Tryd.prog 56 #[.int .i64 p, va, .int .i64 k, vb] w (GivesO (pls p a k b) w) := by
  obtain ⟨i0, hi, hz0, hz1, hz2⟩ := info_parts infoT
  have hpb := pr_bd hp
  have hkp := kp_mg hp k ca cb
  obtain ⟨m, hm⟩ : ∃ m, m = md p k := ⟨_, rfl⟩
  have hm0 := md_bd hp k
  rw [← hm] at hkp hm0
  have hml := mg_len a b
  have T := Lib.hid tb
  have TA := Lib.hid hTa
  have TB := Lib.hid hTb
  have C1 := Lib.hid (fun W (h : Below w.heap.size w W) => mod_ok p k W (tb.on h) hp)
  rw [← hm] at C1
  obtain ⟨aa, na, rfl, a1, a2, a3⟩ := hTa
  obtain ⟨ab, nb, rfl, b1, b2, b3⟩ := hTb
  clear a3 b3 tb hm
  refine callsIn_of_wp_marks Tryd.func56 rfl trivial ?_ rfl
  simp only [Tryd.ntmps56, List.size_toArray, List.length_cons, List.length_nil, Nat.reduceAdd, Nat.reduceSub, Array.replicate_succ, Array.replicate_zero, List.push_toArray, List.append_toArray, List.nil_append, List.cons_append]
  obtain ⟨W0, hW0⟩ : ∃ W0, W0 = (w.alloc (.cells #[.int .i64 p] 3)).alloc (.cells #[.int .i64 k] 3) := ⟨_, rfl⟩
  have bP := Boxed.new w 3 (.int .i64 p)
  have bK := Boxed.new (w.alloc (.cells #[.int .i64 p] 3)) 3 (.int .i64 k)
  replace bP := bP.alloc (.cells #[.int .i64 k] 3)
  have B0 : Below w.heap.size w W0 := by rw [hW0]; exact ((Below.refl _ w).alloc (Nat.le_refl _) _).alloc (by simp) _
  rw [World.size_alloc] at bK
  rw [← hW0] at bP bK
  have hz0' : W0.heap.size = w.heap.size + 1 + 1 := by rw [hW0]; simp
  gi_upto_region 1 with fail
  rw [← hW0]
  clear hW0
  have k0 := bP.cell
  have k1 := bK.cell
  have k2 := bK.frozen
  gi_wp2
  refine ⟨trivial, fun _ => by omega, (callsIn_wide.2 (C1.out _ B0)).mono ?_⟩
  rintro e w' ⟨rfl, rfl⟩
  gi_upto_region 2 with fail
  refine nameW ?_
  intro W1 hW1
  have bP1 : Boxed W1 w.heap.size 3 (.int .i64 p) := by rw [hW1]; exact bP.other (by omega) _
  have bK1 : Boxed W1 (w.heap.size + 1) 3 (.int .i64 m) := by rw [hW1]; exact bK.set _
  have B1 : Below w.heap.size w W1 := by rw [hW1]; exact B0.setCell (p := ⟨w.heap.size + 1, 0, none⟩) (by show w.heap.size ≤ w.heap.size + 1; omega) _
  have hz1' : W1.heap.size = w.heap.size + 1 + 1 := by rw [hW1]; simp only [World.setCell, Array.size_modify]; exact hz0'
  clear hW1 bP bK B0 hz0' k0 k1 k2
  gi_wp2_with (gi_at_make; refine wpListIn_make_own _ rfl _ _ 22 rfl w.heap.size 37 i0 (.agg #[.int .i64 0, .int .i64 0]) 2 Tryd.underlying22 hi hz0 hz1 .i64 .i64 _ (a.length + b.length) rfl rfl (by simp) (by rw [hz2]; omega) (by unfold maxLen; omega) (by omega) ?_; intro w1 hr1 hg1)
  refine ⟨trivial, fun _ => by omega, (merged_in _ _ _ _ _ _ _ _).mono ?_⟩
  rintro e w' ⟨rfl, rfl⟩
  have B2 : Below w.heap.size w w1 := B1.grown hg1 B1.size (by simp)
  have s1 : W1.heap.size ≤ w1.heap.size := hg1.size
  have bP2 := bP1.kept hg1 (by simp)
  have bK2 := bK1.kept hg1 (by simp)
  obtain ⟨v0, hv0⟩ : ∃ v0, v0 = Value.slice (some ⟨w.heap.size + 1 + 1, 0, none⟩) 0 (a.length + b.length) := ⟨_, rfl⟩
  rw [← hz1'] at hv0
  have hr2 : w1.ownsRow w.heap.size 37 2 v0 0 [] := by rw [hv0]; exact hr1
  have bC2 := Boxed.new w1 22 v0
  have bA2 := Boxed.new (w1.alloc (.cells #[v0] 22)) 22 (.slice aa a.length na)
  have bB2 := Boxed.new ((w1.alloc (.cells #[v0] 22)).alloc (.cells #[.slice aa a.length na] 22)) 22 (.slice ab b.length nb)
  simp only [World.size_alloc] at bA2 bB2
  obtain ⟨W3, hW3⟩ : ∃ W3, W3 = ((w1.alloc (.cells #[v0] 22)).alloc (.cells #[.slice aa a.length na] 22)).alloc (.cells #[.slice ab b.length nb] 22) := ⟨_, rfl⟩
  have bP3 : Boxed W3 w.heap.size 3 (.int .i64 p) := by rw [hW3]; exact ((bP2.alloc _).alloc _).alloc _
  have bK3 : Boxed W3 (w.heap.size + 1) 3 (.int .i64 m) := by rw [hW3]; exact ((bK2.alloc _).alloc _).alloc _
  have bC3 : Boxed W3 w1.heap.size 22 v0 := by rw [hW3]; exact (bC2.alloc _).alloc _
  have bA3 : Boxed W3 (w1.heap.size + 1) 22 (.slice aa a.length na) := by rw [hW3]; exact bA2.alloc _
  have bB3 : Boxed W3 (w1.heap.size + 1 + 1) 22 (.slice ab b.length nb) := by rw [hW3]; exact bB2
  have r3 : W3.ownsRow w.heap.size 37 2 v0 0 [] := by rw [hW3]; exact ((hr2.alloc _).alloc _).alloc _
  have B3 : Below w.heap.size w W3 := by rw [hW3]; exact ((B2.alloc B2.size _).alloc (by have := B2.size; simp; omega) _).alloc (by have := B2.size; simp; omega) _
  have z3 : W3.heap.size = w1.heap.size + 1 + 1 + 1 := by rw [hW3]; simp
  have z1 := B2.size
  gi_wp2
  rw [← hz1', ← hv0, ← hW3]
  clear hv0 hW3 bA2 bB2 bC2 hr2 hr1 hg1 bP2 bK2 bP1 bK1
  refine wpIn_rangeFunc_ownH (F := Fence.wide) rfl (by omega) (gf := 88) (lb := #[.pointer (some ⟨w1.heap.size + 1, 0, none⟩), .pointer (some ⟨w1.heap.size + 1 + 1, 0, none⟩)]) rfl trivial (enters_of Tryd.func88 (by kernel_rfl) rfl)
    (merged_stops (n - 1) (by omega) p hpb.2 (w1.heap.size + 1) (w1.heap.size + 1 + 1) w.heap.size _ _ a b ca cb W3 B3.size (by omega) (by omega) bA3.cell bB3.cell (TA.out.below B3) (TB.out.below B3) (fun h => TA.out.lt h) (fun h => TB.out.lt h)) KpM.trans (KpM.put B3.size (by omega) (by omega)) (Below.refl _ _) (fun _ => rfl)
    (fun pre W => ((((∃ v, Boxed W w1.heap.size 22 v ∧ W.ownsRow w.heap.size 37 2 v (kp p m pre).length (flat2 (kp p m pre)) ∧ True) ∧ Boxed W w.heap.size 3 (.int .i64 p)) ∧ Boxed W (w.heap.size + 1) 3 (.int .i64 m)) ∧ Boxed W (w1.heap.size + 1) 22 (.slice aa a.length na) ∧ Boxed W (w1.heap.size + 1 + 1) 22 (.slice ab b.length nb)) ∧ Below w.heap.size w W)
    (fun _ _ _ => False)
    (OwnFrom.and (OwnFrom.and (OwnFrom.and (OwnFrom.and (Own.from (holdsRow_own w.heap.size w1.heap.size 22 37 2 (fun pre => (kp p m pre).length) (fun pre => flat2 (kp p m pre)) (fun _ _ => True)) _) (Own.from (boxed_own _ _ _) _)) (Own.from (boxed_own _ _ _) _)) (OwnFrom.and (Own.from (boxed_own _ _ _) _) (Own.from (boxed_own _ _ _) _))) (ownFrom_below (Nat.le_refl _) (by omega)))
    (fun _ _ _ _ _ hs _ _ => hs)
    ⟨⟨⟨⟨⟨v0, bC3, r3, trivial⟩, bP3⟩, bK3⟩, bA3, bB3⟩, B3⟩
    (fun x a' W => ∃ Bx, w1.heap.size + 1 + 1 < Bx ∧ W.heap[Bx]? = some (.cells #[.int .i64 x.1, .int .i64 (cl x.2.1), .int .i64 (cl x.2.2)] 100 (0, 0)) ∧ a' = { tmps := #[.int .i64 p, .slice aa a.length na, .int .i64 k, .slice ab b.length nb, .pointer (some ⟨w.heap.size, 0, none⟩), undef, .pointer (some ⟨w.heap.size + 1, 0, none⟩), undef, .slice none 0 0, .pointer (some ⟨w1.heap.size, 0, none⟩), .pointer (some ⟨Bx, 0, none⟩), undef, .int .i64 p, .int .i64 k, .int .i64 m, .slice aa a.length na, .int .i64 a.length, .slice ab b.length nb, .int .i64 b.length, .int .i64 (a.length + b.length), v0, .slice aa a.length na, .slice ab b.length nb, .func (.func 88) #[] #[.pointer (some ⟨w1.heap.size + 1, 0, none⟩), .pointer (some ⟨w1.heap.size + 1 + 1, 0, none⟩)], .agg #[.int .i64 x.1, .int .i64 (cl x.2.1), .int .i64 (cl x.2.2)], undef, undef, undef, undef, undef, undef, undef, undef, undef, undef, undef, undef, undef, undef, undef, undef, undef, undef, undef], defers := [] })
    (fun x a' _ X Y row hs hg hr => by obtain ⟨Bx, h1, h2, h3⟩ := hs; exact ⟨Bx, h1, (hg.block Bx (Array.getElem?_eq_some_iff.1 h2).1 (fun e => by obtain ⟨-, o, ho, hc⟩ := hr Bx e.symm; rw [h2] at ho; cases ho; cases hc)).trans h2, h3⟩)
    ?assign ?body ?done ?stop
  case assign =>
    rintro l pre x W K hI hK
    obtain ⟨⟨⟨⟨⟨v, bC, hrow, -⟩, bP⟩, bK⟩, bA, bB⟩, hB⟩ := hI
    unfold enP
    gi_wp2
    exact hK _ _ ((KeepsOthers.alloc _ _).from _) (KpM.of ((Below.refl _ W).alloc (Nat.le_refl _) _) hB.size bA.lt bB.lt) ⟨⟨⟨⟨⟨v, bC.alloc _, hrow.alloc _, trivial⟩, bP.alloc _⟩, bK.alloc _⟩, bA.alloc _, bB.alloc _⟩, hB.alloc hB.size _⟩ ⟨W.heap.size, bB.lt, World.alloc_heap_new W _, rfl⟩
  case body =>
    rintro l pre x a' W hl ⟨r, hr⟩ ⟨⟨⟨⟨⟨v, bC, hrow, -⟩, bP⟩, bK⟩, bA, bB⟩, hB⟩ ⟨Bx, hBx, bX, rfl⟩ hlt
    have c0 := bP.cell
    have c1 := bK.cell
    have c2 := bC.cell
    have c3 := bC.frozen
    have x0 : W.cell? ⟨Bx, 0, none⟩ = some (.int .i64 x.1) := by simp [World.cell?, bX]
    have x1 : W.cell? ⟨Bx, 1, none⟩ = some (.int .i64 (cl x.2.1)) := by simp [World.cell?, bX]
    have x2 : W.cell? ⟨Bx, 2, none⟩ = some (.int .i64 (cl x.2.2)) := by simp [World.cell?, bX]
    have hks := kept_snoc (fun x y => md p (cl x + m * cl y)) pre x
    obtain ⟨y1, y2⟩ := cl_bd x.2.1
    obtain ⟨y3, y4⟩ := cl_bd x.2.2
    obtain ⟨A, hA⟩ : ∃ A, A = cl x.2.1 := ⟨_, rfl⟩
    obtain ⟨C, hC⟩ : ∃ C, C = cl x.2.2 := ⟨_, rfl⟩
    rw [← hA, ← hC] at hks
    rw [← hA] at y1 y2 x1
    rw [← hC] at y3 y4 x2
    have y5 : 0 ≤ m * C := Int.mul_nonneg hm0.1 y3
    have y6 : m * C ≤ 251 * 251 := Int.mul_le_mul (by omega) (by omega) (by omega) (by omega)
    have C2 := Lib.hid (mod_ok p (A + m * C) W (T.out.on hB) hp)
    obtain ⟨y, hy⟩ : ∃ y, y = md p (A + m * C) := ⟨_, rfl⟩
    rw [← hy] at C2 hks
    have HKS := Lib.hid (show kp p m (pre ++ [x]) = if y = 0 then kp p m pre else kp p m pre ++ [(x.1, y)] from hks)
    have hpl : (kp p m pre).length ≤ pre.length := kept_len _ _
    have hmx : (mg a b).length ≤ 2048 := by omega
    rw [← hA, ← hC]
    clear hy hks hA hC
    have h1' : 1 ≤ n - 1 - 1 := by omega
    gi_wp2
    refine ⟨trivial, (CallsIn.inRound l (callsIn_wide.2 C2.out)).mono ?_⟩
    rintro e w' ⟨rfl, rfl⟩
    by_cases h0 : y = 0
    · have e0 : (y == 0) = true := beq_iff_eq.2 h0
      have HK2 := Lib.hid (show kp p m (pre ++ [x]) = kp p m pre from by rw [HKS.out, if_pos h0])
      clear h0
      gi_wp2
      exact ⟨KeepsFrom.refl _ _, KpM.refl _ _ _ _, ⟨⟨⟨⟨v, bC, by rw [HK2.out]; exact hrow, trivial⟩, bP⟩, bK⟩, bA, bB⟩, hB⟩
    · have e0 : (y == 0) = false := beq_eq_false_iff_ne.2 h0
      have HK2 := Lib.hid (show kp p m (pre ++ [x]) = kp p m pre ++ [(x.1, y)] from by rw [HKS.out, if_neg h0])
      clear h0
      gi_wp2_with (gi_at_builtin; refine wpListIn_append_own _ rfl _ _ 22 rfl w.heap.size 37 i0 (.agg #[.int .i64 0, .int .i64 0]) 2 16 Tryd.underlying22 hi hz0 hz1 hz2 rfl (by decide) _ _ _ rfl (hrow.alloc _) ⟨W.heap.size, 0, none⟩ 1 1 [.int .i64 x.1, .int .i64 y] rfl rfl (two_at _ _ _ _) (by simp [Value.oneCell']) (by unfold maxLen; omega) (by omega) (by have := hB.size; simp; omega) ?_; intro v' w2 hown' hgrow _; obtain ⟨g', cap', rfl⟩ := ownsRow_succ hown'; obtain ⟨hv1, hv2, hr2, hk2, hb2⟩ := bC.appended (by decide) hrow hB.size (by omega) hown' hgrow; have hc1 := hv1.cell; have hf1 := hv1.frozen)
      have np := bP.not_row (e := 37) (by decide) hrow
      have nk := bK.not_row (e := 37) (by decide) hrow
      have na' := bA.not_row (e := 37) (by decide) hrow
      have nb' := bB.not_row (e := 37) (by decide) hrow
      have bA9 := (((bA.alloc (.cells #[.int .i64 x.1, .int .i64 y] 37)).kept hgrow na').other (B' := w1.heap.size) (by omega) (.slice (some ⟨g', 0, none⟩) ((kp p m pre).length + 1) cap'))
      have bB9 := (((bB.alloc (.cells #[.int .i64 x.1, .int .i64 y] 37)).kept hgrow nb').other (B' := w1.heap.size) (by omega) (.slice (some ⟨g', 0, none⟩) ((kp p m pre).length + 1) cap'))
      have bP9 := (((bP.alloc (.cells #[.int .i64 x.1, .int .i64 y] 37)).kept hgrow np).other (B' := w1.heap.size) (by omega) (.slice (some ⟨g', 0, none⟩) ((kp p m pre).length + 1) cap'))
      have bK9 := (((bK.alloc (.cells #[.int .i64 x.1, .int .i64 y] 37)).kept hgrow nk).other (B' := w1.heap.size) (by omega) (.slice (some ⟨g', 0, none⟩) ((kp p m pre).length + 1) cap'))
      exact ⟨hk2.from _, ⟨hb2, bA9.trans bA.symm, bB9.trans bB.symm⟩, ⟨⟨⟨⟨_, hv2, by rw [HK2.out, List.length_append, flat2_append]; exact hr2, trivial⟩, bP9⟩, bK9⟩, bA9, bB9⟩, hB.trans hb2⟩
  case done =>
    rintro D ys W hD rfl ⟨⟨⟨⟨⟨v, bC, hrow, -⟩, bP⟩, bK⟩, bA, bB⟩, hB⟩ hK
    have hc := bC.cell
    gi_wp2
    refine ⟨by simp, .inl ⟨_, _, rfl, run_takeDeferred hK, ?_⟩⟩
    have hro := ownsRow_putObj hrow (.deferred none) hK rfl
    rw [hkp] at hro
    exact ⟨_, results_tmp rfl _ _ _, v, rfl, hro, hB.trans (belowK_b (w := w) (Nat.le_refl _) W D _ _ (by omega) hK rfl rfl)⟩
  case stop =>
    rintro D c pre W _ _ h _
    exact h.elim
theorem plus_own (p k : Int) (va vb : Value) (a b : List Tm) (w : World) (tb : Tab w) (hp : pr p = true) (hTa : TermsV w va a) (hTb : TermsV w vb b) (ca : Col p a) (cb : Col p b) (hla : a.length ≤ 1024) (hlb : b.length ≤ 1024) :
    Calls Tryd.prog 56 #[.int .i64 p, va, .int .i64 k, vb] w (GivesO (pls p a k b) w) :=
  (callsIn_wide (n := 6)).1 (plus_inO 6 (Nat.le_refl _) p k va vb a b w tb hp hTa hTb ca cb hla hlb)
theorem own_up {w w1 w2 : World} {v : Value} {n : Nat} {xs : List Value} (h : w2.ownsRow w1.heap.size 37 2 v n xs) (hb : w.heap.size ≤ w1.heap.size) : w2.ownsRow w.heap.size 37 2 v n xs := by
  refine ⟨h.1, h.2.imp id ?_⟩
  rintro ⟨g, cap, cur, e, hB, rest⟩
  exact ⟨g, cap, cur, e, Nat.le_trans hb hB, rest⟩
theorem add_own (p k : Int) (va vb : Value) (a b : List Tm) (w : World) (tb : Tab w) (ha : TermsV w va a) (hb : TermsV w vb b) :
    Calls Tryd.prog 21 #[.int .i64 p, va, .int .i64 k, vb] w (GivesOE (if chk2 p a b = 0 then pls p a k b else []) (chk2 p a b) w) := by
  obtain ⟨x, hx⟩ : ∃ x, x = chk2 p a b := ⟨_, rfl⟩
  have CA := Lib.hid (checkBoth_any p va vb a b w tb ha hb)
  rw [← hx] at CA ⊢
  by_cases h0 : x = 0
  · have e0 : (x == 0) = true := beq_iff_eq.2 h0
    rw [if_pos h0]
    obtain ⟨hp, ca, cb⟩ := chk2_zero.1 (hx.symm.trans h0)
    have CB := Lib.hid (fun W (h : Below w.heap.size w W) => plus_own p k va vb a b W (tb.on h) hp (ha.below h) (hb.below h) ca cb (col_len ca) (col_len cb))
    subst h0
    clear hx tb
    go_enter Tryd.func21, Tryd.ntmps21
    go_wp2_with fail
    refine Calls.mono CA.out ?_
    rintro e w1 ⟨rfl, hb1⟩
    have B1 := Lib.hid hb1
    clear hb1
    go_wp2_with fail
    refine Calls.mono (CB.out w1 B1.out) ?_
    rintro e w2 ⟨v2, rfl, ht2, hb2⟩
    have R := Lib.hid (show GivesOE _ 0 w (.returned (.tuple #[v2, .int .i64 0])) w2 from ⟨_, rfl, own_up ht2 B1.out.size, B1.out.trans (hb2.mono B1.out.size)⟩)
    clear ht2 hb2
    go_wp2
    go_ret2
    exact R.out
  · have e0 : (x == 0) = false := beq_eq_false_iff_ne.2 h0
    rw [if_neg h0]
    clear h0 hx tb
    go_enter Tryd.func21, Tryd.ntmps21
    go_wp2_with fail
    refine Calls.mono CA.out ?_
    rintro e w1 ⟨rfl, hb1⟩
    have B1 := Lib.hid hb1
    clear hb1
    go_wp2
    go_ret2
    exact ⟨_, rfl, World.ownsRow_nil _ _ _ _, B1.out⟩
theorem scale_own (p k : Int) (va : Value) (a : List Tm) (w : World) (tb : Tab w) (ha : TermsV w va a) :
    Calls Tryd.prog 23 #[.int .i64 p, va, .int .i64 k] w (GivesOE (if chk p a = 0 then pls p [] k a else []) (chk p a) w) := by
  obtain ⟨x, hx⟩ : ∃ x, x = chk p a := ⟨_, rfl⟩
  have CA := Lib.hid (check_any p va a w tb ha)
  rw [← hx] at CA ⊢
  by_cases h0 : x = 0
  · have e0 : (x == 0) = true := beq_iff_eq.2 h0
    rw [if_pos h0]
    obtain ⟨hp, ca⟩ := chk_zero.1 (hx.symm.trans h0)
    have CB := Lib.hid (fun W (h : Below w.heap.size w W) => plus_own p k (.slice none 0 0) va [] a W (tb.on h) hp (TermsV.nil W) (ha.below h) trivial ca (by simp) (col_len ca))
    subst h0
    clear hx tb
    go_enter Tryd.func23, Tryd.ntmps23
    go_wp2_with fail
    refine Calls.mono CA.out ?_
    rintro e w1 ⟨rfl, hb1⟩
    have B1 := Lib.hid hb1
    clear hb1
    go_wp2_with fail
    refine Calls.mono (CB.out w1 B1.out) ?_
    rintro e w2 ⟨v2, rfl, ht2, hb2⟩
    have R := Lib.hid (show GivesOE _ 0 w (.returned (.tuple #[v2, .int .i64 0])) w2 from ⟨_, rfl, own_up ht2 B1.out.size, B1.out.trans (hb2.mono B1.out.size)⟩)
    clear ht2 hb2
    go_wp2
    go_ret2
    exact R.out
  · have e0 : (x == 0) = false := beq_eq_false_iff_ne.2 h0
    rw [if_neg h0]
    clear h0 hx tb
    go_enter Tryd.func23, Tryd.ntmps23
    go_wp2_with fail
    refine Calls.mono CA.out ?_
    rintro e w1 ⟨rfl, hb1⟩
    have B1 := Lib.hid hb1
    clear hb1
    go_wp2
    go_ret2
    exact ⟨_, rfl, World.ownsRow_nil _ _ _ _, B1.out⟩
end Go.Proofs.YtdhcffboaiajeaaDoor
