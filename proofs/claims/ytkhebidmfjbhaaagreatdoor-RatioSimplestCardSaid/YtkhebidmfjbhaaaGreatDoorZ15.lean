/-
  What euclid.step does.
-/
import Derived.Test.YtkhebidmfjbhaaaGreatDoorZ14
namespace Go.Proofs.YtkhebidmfjbhaaaGreatDoor
open Go.RowKit

/-- All below block g is as it was; a box holds the number q; the stage lies at g. -/
structure EC (w W : World) (g k : Nat) (p v : Value) (q : Int) (pa va pb vb ps vs pt vt : Value) (mn : Bool) (a b s t : Int) : Prop where
  below : Below g w W
  box : Nat2 W k 0 p v q
  eb : EB W g pa va pb vb ps vs pt vt mn a b s t
theorem EC.step {w W W' : World} {g k : Nat} {p v pa va pb vb ps vs pt vt : Value} {mn : Bool} {q a b s t : Int} (h : EC w W g k p v q pa va pb vb ps vs pt vt mn a b s t) (hb : Below W.heap.size W W') : EC w W' g k p v q pa va pb vb ps vs pt vt mn a b s t :=
  ⟨h.below.trans (hb.mono (Nat.le_of_lt h.eb.lt)), h.box.below hb, h.eb.step hb⟩
theorem ec_put01 {w W : World} {g k2 k3 : Nat} {pa va pb vb ps vs pt vt p v q u : Value} {mn : Bool} {a b s t x y : Int} (h : RB w W k2 k3 p v q u x y) (hg : g < w.heap.size) (e : EB W g pa va pb vb ps vs pt vt mn a b s t) :
    EC w (wrN (wrN W g 0 pb vb) g 2 q u).drew g k2 p v x pb vb q u ps vs pt vt mn b y s t := by
  have h2 := h.l2
  have e1 := e.puta e.b.n
  have hy : NatV (wrN W g 0 pb vb) q u y := h.n3.n.wr2 e.a (.inl (by omega))
  have e2 := e1.putb hy
  have x1 : Nat2 (wrN W g 0 pb vb) k2 0 p v x := h.n2.apart (by omega) e.a (.inl (by omega))
  have x2 : Nat2 (wrN (wrN W g 0 pb vb) g 2 q u) k2 0 p v x := x1.apart (by omega) e1.b (.inr ⟨_, e1.a.t, e1.a.notint⟩)
  have e3 : EC w (wrN (wrN W g 0 pb vb) g 2 q u) g k2 p v x pb vb q u ps vs pt vt mn b y s t := ⟨wr2_below (wr2_below (h.below.mono (Nat.le_of_lt hg)) (Nat.le_refl _)) (Nat.le_refl _), x2, e2⟩
  exact e3.step (below_drew _)
set_option maxHeartbeats 4000000 in
set_option maxRecDepth 100000 in
theorem step_any (g : Nat) (w : World) (pa va pb vb ps vs pt vt : Value) (mn : Bool) (a b s t : Int) (h : EB w g pa va pb vb ps vs pt vt mn a b s t) (hb : 0 < b) (ha9 : nl a ≤ 20000) (hs9 : nl s ≤ 20000) (ht9 : nl t ≤ 20000) :
    Calls Tryz.prog 225 #[.pointer (some ⟨g, 0, none⟩)] w (fun e w' => e = .returned (.tuple #[]) ∧ Below g w w' ∧ ∃ pa' va' pb' vb' ps' vs' pt' vt', EB w' g pa' va' pb' vb' ps' vs' pt' vt' (!mn) b (a % b) t (s + (a / b) * t)) := by
  have EH := Lib.hid h
  have hlt := h.lt
  have hq9 : nl (a / b) ≤ 20000 := by
    have h0 := (EH.out).a.n.1
    exact Nat.le_trans (nl_mono h0 (Int.ediv_le_self _ h0)) ha9
  have hqt9 : nl (a / b * t) ≤ 40000 := by
    have h0 := (EH.out).a.n.1
    have := nl_mul (Int.ediv_nonneg h0 (by omega)) (EH.out).t.n.1 (x := a / b)
    omega
  have DV := Lib.hid (fun W (hB : Below w.heap.size w W) => divide_any _ _ _ _ a b W (h.a.n.below hB) (h.b.n.below hB) hb (by omega))
  obtain ⟨f1, f2, f3, f4, f5, -, -, -, -, -, -⟩ := h.a.n.form
  subst f4 f5
  obtain ⟨h1, h2, h3, h4, h5, -, -, -, -, -, -⟩ := h.b.n.form
  subst h4 h5
  obtain ⟨i1, i2, i3, i4, i5, -, -, -, -, -, -⟩ := h.s.n.form
  subst i4 i5
  obtain ⟨j1, j2, j3, j4, j5, -, -, -, -, -, -⟩ := h.t.n.form
  subst j4 j5
  have c0 := h.a.s.1
  have c1 := h.a.t.1
  have c2 := h.b.s.1
  have c3 := h.b.t.1
  clear h
  go_enter Tryz.func225, Tryz.ntmps225
  go_upto_region 0 with fail
  go_cut [2, 3] from 4 (fun x y W => ∃ k2 k3 t1 a1 n1 t2 a2 n2, x = .pointer (some ⟨k2, 0, none⟩) ∧ y = .pointer (some ⟨k3, 0, none⟩) ∧ RB w W k2 k3 (.int .u64 t1) (.slice a1 n1 n1) (.int .u64 t2) (.slice a2 n2 n2) (a / b) (a % b))
  case first =>
    go_region_held3 (fun W => (W.cell? ⟨g, 0, none⟩ = some (.int .u64 f1) ∧ W.cell? ⟨g, 1, none⟩ = some (.slice f2 f3 f3) ∧ W.cell? ⟨g, 2, none⟩ = some (.int .u64 h1) ∧ W.cell? ⟨g, 3, none⟩ = some (.slice h2 h3 h3)) ∧ Below w.heap.size w W) ((refine SK EH.out ?_; repeat (first | with_reducible exact HB1.out | with_reducible exact below_drew _ | with_reducible exact Below.refl _ _ | with_reducible refine Below.drew ?_ | with_reducible refine below_put ?_ (by first | exact Nat.le_refl _ | exact Nat.le_succ _ | exact HS1.out | exact Nat.le_succ_of_le HS1.out) | with_reducible refine below_more ?_))) (first | (go_at_call 182; have hH := ‹(_ ∧ _) ∧ Below w.heap.size w _›; refine Calls.mono (DV.out _ hH.2) ?_; rintro e w1 ⟨p1, v1, p2, v2, rfl, hv1, hv2, hb1⟩; have HB1 := Lib.hid (hH.2.trans (hb1.mono hH.2.size)); have HS1 := Lib.hid HB1.out.size; clear hH; (first | ((with_reducible have hbx := res2 hb1); obtain ⟨y1, y2⟩ := hbx; have ⟨y10, y11, y12, y13⟩ := y1; have ⟨y20, y21, y22, y23⟩ := y2) | ((with_reducible have hbx := res1 hb1); obtain ⟨y1, y3⟩ := hbx; have ⟨y10, y11, y12, y13⟩ := y1; have hs3 := Nat.ne_of_lt y3; have hs4 := Nat.ne_of_gt y3) | skip); obtain ⟨t1, a1, n1, rfl, rfl, -, -, -, -, -, -⟩ := hv1.form; obtain ⟨t2, a2, n2, rfl, rfl, -, -, -, -, -, -⟩ := hv2.form; have V1 := Lib.hid hv1; have V2 := Lib.hid hv2; clear hv1 hv2 hb1))
    all_goals (go_wp2_with fail; go_meet; case rel => (refine ⟨_, _, t1, a1, n1, t2, a2, n2, rfl, rfl, ?_⟩; refine ⟨?_, ?_, ?_, ?_, ?_⟩ <;> first | (first | exact Nat.le_refl _ | exact Nat.le_succ _ | exact HS1.out | exact Nat.le_succ_of_le HS1.out | (have := HS1.out; omega)) | ((repeat (first | exact HB1.out | refine below_more ?_ | refine below_put ?_ (by first | exact Nat.le_refl _ | exact Nat.le_succ _ | exact HS1.out | exact Nat.le_succ_of_le HS1.out | (have := HS1.out; omega)))); done) | ((repeat (first | ((with_reducible refine nat2_new _ ?_ (by first | rfl | (simp; done) | (simp; omega))); (repeat (first | exact V1.out | exact V2.out | (with_reducible refine nat_alloc ?_) | ((with_reducible refine nat_put ?_ ?_); (case refine_2 => (repeat (first | exact y1 | exact y2 | exact ResN.new _ _ _ (by first | rfl | (simp; done) | (simp; omega)) | (with_reducible refine ResN.alloc ?_) | (with_reducible refine ResN.put ?_ (by first | assumption | omega)))))))); done) | ((with_reducible refine nat2_put ?_ ?_); (case refine_1 => (repeat (first | exact V1.out | exact V2.out | (with_reducible refine nat_alloc ?_) | ((with_reducible refine nat_put ?_ ?_); (case refine_2 => (repeat (first | exact y1 | exact y2 | exact ResN.new _ _ _ (by first | rfl | (simp; done) | (simp; omega)) | (with_reducible refine ResN.alloc ?_) | (with_reducible refine ResN.put ?_ (by first | assumption | omega))))))))); (case refine_2 => (repeat (first | exact y1 | exact y2 | exact ResN.new _ _ _ (by first | rfl | (simp; done) | (simp; omega)) | (with_reducible refine ResN.alloc ?_) | (with_reducible refine ResN.put ?_ (by first | assumption | omega))))); done) | (with_reducible refine Nat2.alloc ?_) | ((with_reducible refine nat2_other ?_ (by first | assumption | omega) ?_); (case refine_2 => (repeat (first | exact y1 | exact y2 | exact ResN.new _ _ _ (by first | rfl | (simp; done) | (simp; omega)) | (with_reducible refine ResN.alloc ?_) | (with_reducible refine ResN.put ?_ (by first | assumption | omega)))))))); done)))
  case rest =>
    obtain ⟨k2, k3, t1, a1, n1, t2, a2, n2, rfl, rfl, hrb⟩ := hcut
    have hne : k2 ≠ g := by have := hrb.l2; omega
    have hne' : g ≠ k2 := fun e => hne e.symm
    have hn3 : k3 ≠ g := by have := hrb.l3; omega
    have hn3' : g ≠ k3 := fun e => hn3 e.symm
    have E1 := Lib.hid (EH.out.step hrb.below)
    have RBH := Lib.hid hrb
    obtain ⟨⟨e1, e2⟩, ⟨e3, e4⟩, _⟩ := E1.out.a
    obtain ⟨⟨e5, e6⟩, ⟨e7, e8⟩, _⟩ := E1.out.b
    obtain ⟨⟨e9, e10⟩, ⟨e11, e12⟩, _⟩ := hrb.n3
    clear hrb c0 c1 c2 c3
    go_upto_region 1 with fail
    go_cut [] from 16 (fun W => EC w W g k2 (.int .u64 t1) (.slice a1 n1 n1) (a / b) (.int .u64 h1) (.slice h2 h3 h3) (.int .u64 t2) (.slice a2 n2 n2) (.int .u64 i1) (.slice i2 i3 i3) (.int .u64 j1) (.slice j2 j3 j3) mn b (a % b) s t)
    case first =>
      go_region
      all_goals (go_wp2_with fail; go_meet; case rel => exact ec_put01 RBH.out hlt E1.out)
    case rest =>
      have CH := Lib.hid hcut
      obtain ⟨⟨d1, d2⟩, ⟨d3, d4⟩, _⟩ := hcut.eb.s
      obtain ⟨⟨d5, d6⟩, ⟨d7, d8⟩, _⟩ := hcut.eb.t
      obtain ⟨d9, d10⟩ := hcut.eb.m
      have HPR := Lib.hid (fun W (h : EC w W g k2 (.int .u64 t1) (.slice a1 n1 n1) (a / b) (.int .u64 h1) (.slice h2 h3 h3) (.int .u64 t2) (.slice a2 n2 n2) (.int .u64 i1) (.slice i2 i3 i3) (.int .u64 j1) (.slice j2 j3 j3) mn b (a % b) s t) => product_any _ _ _ _ (a / b) t W h.box.n h.eb.t.n (Nat.le_trans hq9 (by omega)) (by omega))
      have CHD := Lib.hid (CH.out.step (below_drew _))
      clear hcut E1 RBH e1 e2 e3 e4 e5 e6 e7 e8 e9 e10 e11 e12
      go_upto_region 2 with fail
      go_cut [] from 27 (fun W => ∃ ps' vs' pt' vt', Below g w W ∧ EB W g (.int .u64 h1) (.slice h2 h3 h3) (.int .u64 t2) (.slice a2 n2 n2) ps' vs' pt' vt' mn b (a % b) t (s + a / b * t))
      case first =>
        refine region_till (S := fun (W : World) => (W.cell? ⟨g, 4, none⟩ = some (.int .u64 i1) ∧ W.cell? ⟨g, 5, none⟩ = some (.slice i2 i3 i3)) ∧ (W.cell? ⟨g, 6, none⟩ = some (.int .u64 j1) ∧ W.cell? ⟨g, 7, none⟩ = some (.slice j2 j3 j3)) ∧ (W.cell? ⟨k2, 0, none⟩ = some (.int .u64 t1) ∧ W.cell? ⟨k2, 1, none⟩ = some (.slice a1 n1 n1))) (M := 17) (by kernel_rfl) ?_
        have hS0 : (fun (W : World) => (W.cell? ⟨g, 4, none⟩ = some (.int .u64 i1) ∧ W.cell? ⟨g, 5, none⟩ = some (.slice i2 i3 i3)) ∧ (W.cell? ⟨g, 6, none⟩ = some (.int .u64 j1) ∧ W.cell? ⟨g, 7, none⟩ = some (.slice j2 j3 j3)) ∧ (W.cell? ⟨k2, 0, none⟩ = some (.int .u64 t1) ∧ W.cell? ⟨k2, 1, none⟩ = some (.slice a1 n1 n1))) _ := ⟨⟨CHD.out.eb.s.s.1, CHD.out.eb.s.t.1⟩, ⟨CHD.out.eb.t.s.1, CHD.out.eb.t.t.1⟩, ⟨CHD.out.box.s.1, CHD.out.box.t.1⟩⟩
        refine till_any (i := 0) (v := ?_) rfl rfl (by kernel_rfl) (by kernel_rfl) (by kernel_rfl) (fun _ _ _ h => h) hS0 (Or.inl ⟨by rfl, ?_⟩) ?_
        rotate_left
        · ((intro W hW; (try dsimp only at hW); go_simp) <;> (with_reducible rfl))
        try simp only [Act.put, List.setIfInBounds_toArray, List.set_cons_zero, List.set_cons_succ, List.getElem_toArray, List.getElem_cons_zero]
        refine till_any (i := 1) (v := ?_) rfl rfl (by kernel_rfl) (by kernel_rfl) (by kernel_rfl) (fun _ _ _ h => h) hS0 (Or.inl ⟨by rfl, ?_⟩) ?_
        rotate_left
        · ((intro W hW; (try dsimp only at hW); go_simp) <;> (with_reducible rfl))
        try simp only [Act.put, List.setIfInBounds_toArray, List.set_cons_zero, List.set_cons_succ, List.getElem_toArray, List.getElem_cons_succ, List.getElem_cons_zero]
        refine till_any (i := 2) (v := ?_) rfl rfl (by kernel_rfl) (by kernel_rfl) (by kernel_rfl) (fun _ _ _ h => h) hS0 (Or.inl ⟨by rfl, ?_⟩) ?_
        rotate_left
        · ((intro W hW; (try dsimp only at hW); go_simp) <;> (with_reducible rfl))
        try simp only [Act.put, List.setIfInBounds_toArray, List.set_cons_zero, List.set_cons_succ, List.getElem_toArray, List.getElem_cons_succ, List.getElem_cons_zero]
        refine till_any (i := 3) (v := ?_) rfl rfl (by kernel_rfl) (by kernel_rfl) (by kernel_rfl) (fun _ _ _ h => h) hS0 (Or.inl ⟨by rfl, ?_⟩) ?_
        rotate_left
        · ((intro W hW; (try dsimp only at hW); go_simp) <;> (with_reducible rfl))
        try simp only [Act.put, List.setIfInBounds_toArray, List.set_cons_zero, List.set_cons_succ, List.getElem_toArray, List.getElem_cons_succ, List.getElem_cons_zero]
        refine till_any (i := 4) (v := ?_) rfl rfl (by kernel_rfl) (by kernel_rfl) (by kernel_rfl) (fun _ _ _ h => h) hS0 (Or.inl ⟨by rfl, ?_⟩) ?_
        rotate_left
        · ((intro W hW; (try dsimp only at hW); go_simp) <;> (with_reducible rfl))
        try simp only [Act.put, List.setIfInBounds_toArray, List.set_cons_zero, List.set_cons_succ, List.getElem_toArray, List.getElem_cons_succ, List.getElem_cons_zero]
        refine till_held (i := 5) (v := ?_) [5, 17] rfl rfl (by kernel_rfl) (by kernel_rfl) (by kernel_rfl) (by kernel_rfl) (fun _ _ _ h => h) hS0 (Or.inl ⟨by rfl, ?_⟩) ?_
        rotate_left
        · ((intro W hW; (try dsimp only at hW); go_simp) <;> (with_reducible rfl))
        try simp only [Act.put, List.setIfInBounds_toArray, List.set_cons_zero, List.set_cons_succ, List.getElem_toArray, List.getElem_cons_succ, List.getElem_cons_zero]
        refine till_any (i := 6) (v := ?_) rfl rfl (by kernel_rfl) (by kernel_rfl) (by kernel_rfl) (fun _ _ _ h => h) hS0 (Or.inl ⟨by rfl, ?_⟩) ?_
        rotate_left
        · ((intro W hW; (try dsimp only at hW); go_simp) <;> (with_reducible rfl))
        try simp only [Act.put, List.setIfInBounds_toArray, List.set_cons_zero, List.set_cons_succ, List.getElem_toArray, List.getElem_cons_succ, List.getElem_cons_zero]
        refine till_any (i := 7) (v := ?_) rfl rfl (by kernel_rfl) (by kernel_rfl) (by kernel_rfl) (fun _ _ _ h => h) hS0 (Or.inl ⟨by rfl, ?_⟩) ?_
        rotate_left
        · ((intro W hW; (try dsimp only at hW); go_simp) <;> (with_reducible rfl))
        try simp only [Act.put, List.setIfInBounds_toArray, List.set_cons_zero, List.set_cons_succ, List.getElem_toArray, List.getElem_cons_succ, List.getElem_cons_zero]
        refine till_any (i := 8) (v := ?_) rfl rfl (by kernel_rfl) (by kernel_rfl) (by kernel_rfl) (fun _ _ _ h => h) hS0 (Or.inl ⟨by rfl, ?_⟩) ?_
        rotate_left
        · ((intro W hW; (try dsimp only at hW); go_simp) <;> (with_reducible rfl))
        try simp only [Act.put, List.setIfInBounds_toArray, List.set_cons_zero, List.set_cons_succ, List.getElem_toArray, List.getElem_cons_succ, List.getElem_cons_zero]
        refine till_held (i := 9) (v := ?_) [9, 17] rfl rfl (by kernel_rfl) (by kernel_rfl) (by kernel_rfl) (by kernel_rfl) (fun _ _ _ h => h) hS0 (Or.inl ⟨by rfl, ?_⟩) ?_
        rotate_left
        · ((intro W hW; (try dsimp only at hW); go_simp) <;> (with_reducible rfl))
        try simp only [Act.put, List.setIfInBounds_toArray, List.set_cons_zero, List.set_cons_succ, List.getElem_toArray, List.getElem_cons_succ, List.getElem_cons_zero]
        refine till_held (i := 10) (v := ?_) [10, 15, 17] rfl rfl (by kernel_rfl) (by kernel_rfl) (by kernel_rfl) (by kernel_rfl) (fun _ _ _ h => h) hS0 (Or.inl ⟨by rfl, ?_⟩) ?_
        rotate_left
        · ((intro W hW; (try dsimp only at hW); go_simp) <;> (with_reducible rfl))
        try simp only [Act.put, List.setIfInBounds_toArray, List.set_cons_zero, List.set_cons_succ, List.getElem_toArray, List.getElem_cons_succ, List.getElem_cons_zero]
        refine till_any (i := 11) (v := ?_) rfl rfl (by kernel_rfl) (by kernel_rfl) (by kernel_rfl) (fun _ _ _ h => h) hS0 (Or.inl ⟨by rfl, ?_⟩) ?_
        rotate_left
        · ((intro W hW; (try dsimp only at hW); go_simp) <;> (with_reducible rfl))
        try simp only [Act.put, List.setIfInBounds_toArray, List.set_cons_zero, List.set_cons_succ, List.getElem_toArray, List.getElem_cons_succ, List.getElem_cons_zero]
        refine till_any (i := 12) (v := ?_) rfl rfl (by kernel_rfl) (by kernel_rfl) (by kernel_rfl) (fun _ _ _ h => h) hS0 (Or.inl ⟨by rfl, ?_⟩) ?_
        rotate_left
        · ((intro W hW; (try dsimp only at hW); go_simp) <;> (with_reducible rfl))
        try simp only [Act.put, List.setIfInBounds_toArray, List.set_cons_zero, List.set_cons_succ, List.getElem_toArray, List.getElem_cons_succ, List.getElem_cons_zero]
        refine till_any (i := 13) (v := ?_) rfl rfl (by kernel_rfl) (by kernel_rfl) (by kernel_rfl) (fun _ _ _ h => h) hS0 (Or.inl ⟨by rfl, ?_⟩) ?_
        rotate_left
        · ((intro W hW; (try dsimp only at hW); go_simp) <;> (with_reducible rfl))
        try simp only [Act.put, List.setIfInBounds_toArray, List.set_cons_zero, List.set_cons_succ, List.getElem_toArray, List.getElem_cons_succ, List.getElem_cons_zero]
        refine till_held (i := 14) (v := ?_) [14, 17] rfl rfl (by kernel_rfl) (by kernel_rfl) (by kernel_rfl) (by kernel_rfl) (fun _ _ _ h => h) hS0 (Or.inl ⟨by rfl, ?_⟩) ?_
        rotate_left
        · ((intro W hW; (try dsimp only at hW); go_simp) <;> (with_reducible rfl))
        try simp only [Act.put, List.setIfInBounds_toArray, List.set_cons_zero, List.set_cons_succ, List.getElem_toArray, List.getElem_cons_succ, List.getElem_cons_zero]
        refine till_one (i := 15) rfl (by kernel_rfl) (fun K hK => ?_)
        go_simp
        refine Calls.mono (HPR.out _ (CH.out.step (below_drew _))) ?_
        rintro e w1 ⟨p3, v3, rfl, hv3, hb3⟩
        have C1 := Lib.hid ((CH.out.step (below_drew _)).step hb3)
        have HSU := Lib.hid (sum_any _ _ _ _ _ _ _ C1.out.eb.s.n hv3 (by omega) (by omega))
        obtain ⟨t3, a3, n3, rfl, rfl, -, -, -, -, -, -⟩ := hv3.form
        clear hv3 hb3
        have hS1 : (fun (W : World) => (W.cell? ⟨g, 4, none⟩ = some (.int .u64 i1) ∧ W.cell? ⟨g, 5, none⟩ = some (.slice i2 i3 i3)) ∧ (W.cell? ⟨g, 6, none⟩ = some (.int .u64 j1) ∧ W.cell? ⟨g, 7, none⟩ = some (.slice j2 j3 j3)) ∧ (W.cell? ⟨k2, 0, none⟩ = some (.int .u64 t1) ∧ W.cell? ⟨k2, 1, none⟩ = some (.slice a1 n1 n1))) w1 := ⟨⟨C1.out.eb.s.s.1, C1.out.eb.s.t.1⟩, ⟨C1.out.eb.t.s.1, C1.out.eb.t.t.1⟩, ⟨C1.out.box.s.1, C1.out.box.t.1⟩⟩
        go_wp2_with fail
        refine hK.out _ _ ⟨fun _ => hS1, ?_⟩
        clear hK K
        try simp only [Act.put, List.setIfInBounds_toArray, List.set_cons_zero, List.set_cons_succ, List.getElem_toArray, List.getElem_cons_succ, List.getElem_cons_zero]
        refine till_one (i := 16) rfl (by kernel_rfl) (fun K hK => ?_)
        go_simp
        refine Calls.mono HSU.out ?_
        rintro e w2 ⟨p4, v4, rfl, hv4, hb4⟩
        have C2 := Lib.hid (C1.out.step hb4)
        obtain ⟨t4, a4, n4, rfl, rfl, -, -, -, -, -, -⟩ := hv4.form
        have V4 := Lib.hid hv4
        clear hv4 hb4
        have hS2 : (fun (W : World) => (W.cell? ⟨g, 4, none⟩ = some (.int .u64 i1) ∧ W.cell? ⟨g, 5, none⟩ = some (.slice i2 i3 i3)) ∧ (W.cell? ⟨g, 6, none⟩ = some (.int .u64 j1) ∧ W.cell? ⟨g, 7, none⟩ = some (.slice j2 j3 j3)) ∧ (W.cell? ⟨k2, 0, none⟩ = some (.int .u64 t1) ∧ W.cell? ⟨k2, 1, none⟩ = some (.slice a1 n1 n1))) w2 := ⟨⟨C2.out.eb.s.s.1, C2.out.eb.s.t.1⟩, ⟨C2.out.eb.t.s.1, C2.out.eb.t.t.1⟩, ⟨C2.out.box.s.1, C2.out.box.t.1⟩⟩
        obtain ⟨⟨b1, b2⟩, ⟨b3, b4⟩, _⟩ := C2.out.eb.s
        obtain ⟨⟨b5, b6⟩, ⟨b7, b8⟩, _⟩ := C2.out.eb.t
        go_wp2_with fail
        refine hK.out _ _ ⟨fun _ => hS2, ?_⟩
        clear hK K
        try simp only [Act.put, List.setIfInBounds_toArray, List.set_cons_zero, List.set_cons_succ, List.getElem_toArray, List.getElem_cons_succ, List.getElem_cons_zero]
        refine till_one (i := 17) rfl (by kernel_rfl) (fun K hK => ?_)
        go_simp
        refine hK.out _ _ ⟨fun h => absurd h (by simp), ?_⟩
        clear hK K
        try simp only [Act.put, List.setIfInBounds_toArray, List.set_cons_zero, List.set_cons_succ, List.getElem_toArray, List.getElem_cons_succ, List.getElem_cons_zero]
        refine till_one (i := 18) rfl (by kernel_rfl) (fun K hK => ?_)
        go_simp
        refine hK.out _ _ ⟨fun h => absurd h (by simp), ?_⟩
        clear hK K
        try simp only [Act.put, List.setIfInBounds_toArray, List.set_cons_zero, List.set_cons_succ, List.getElem_toArray, List.getElem_cons_succ, List.getElem_cons_zero]
        refine till_one (i := 19) rfl (by kernel_rfl) (fun K hK => ?_)
        go_simp
        refine hK.out _ _ ⟨fun h => absurd h (by simp), ?_⟩
        clear hK K
        try simp only [Act.put, List.setIfInBounds_toArray, List.set_cons_zero, List.set_cons_succ, List.getElem_toArray, List.getElem_cons_succ, List.getElem_cons_zero]
        refine till_one (i := 20) rfl (by kernel_rfl) (fun K hK => ?_)
        go_simp
        refine hK.out _ _ ⟨fun h => absurd h (by simp), ?_⟩
        clear hK K
        try simp only [Act.put, List.setIfInBounds_toArray, List.set_cons_zero, List.set_cons_succ, List.getElem_toArray, List.getElem_cons_succ, List.getElem_cons_zero]
        refine till_one (i := 21) rfl (by kernel_rfl) (fun K hK => ?_)
        go_simp
        refine hK.out _ _ ⟨fun h => absurd h (by simp), ?_⟩
        clear hK K
        try simp only [Act.put, List.setIfInBounds_toArray, List.set_cons_zero, List.set_cons_succ, List.getElem_toArray, List.getElem_cons_succ, List.getElem_cons_zero]
        refine till_one (i := 22) rfl (by kernel_rfl) (fun K hK => ?_)
        go_simp
        refine hK.out _ _ ⟨fun h => absurd h (by simp), ?_⟩
        clear hK K
        try simp only [Act.put, List.setIfInBounds_toArray, List.set_cons_zero, List.set_cons_succ, List.getElem_toArray, List.getElem_cons_succ, List.getElem_cons_zero]
        refine till_done (by kernel_rfl) ?_
        go_wp2_with fail
        go_meet
        case rel =>
          have e5 := C2.out.eb.puts C2.out.eb.t.n
          have e6 := V4.out.wr2 (p' := .int .u64 j1) (v' := .slice j2 j3 j3) C2.out.eb.s (.inr ⟨_, C2.out.eb.b.t, C2.out.eb.b.notint⟩)
          exact ⟨_, _, _, _, wr2_below (wr2_below C2.out.below (Nat.le_refl _)) (Nat.le_refl _), e5.putt e6⟩
      case rest =>
        obtain ⟨ps', vs', pt', vt', hb9, he9⟩ := hcut
        have HB9 := Lib.hid hb9
        have HE9 := Lib.hid he9
        obtain ⟨g1, g2⟩ := he9.m
        clear hb9 he9 CH CHD HPR d1 d2 d3 d4 d5 d6 d7 d8 d9 d10
        go_wp2
        go_end0
        exact ⟨rfl, below_set HB9.out 8 (Nat.le_refl _) _, _, _, _, _, _, _, _, _, HE9.out.putm _⟩
end Go.Proofs.YtkhebidmfjbhaaaGreatDoor
