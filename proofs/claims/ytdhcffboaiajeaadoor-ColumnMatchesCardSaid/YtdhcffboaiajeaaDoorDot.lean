/-
  What dot returns.
-/
import Derived.Test.YtdhcffboaiajeaaDoorPlus
namespace Go.Proofs.YtdhcffboaiajeaaDoor
open Go.RowKit Go.Shelf M

attribute [local go_sem] Oper.semAt_some

/-- The sum of the products, as the loop keeps it. -/
def dt (l : List (Int × Int × Int)) : Int := l.foldl (fun s x => s + cl x.2.1 * cl x.2.2) 0
theorem dt_snoc (l : List (Int × Int × Int)) (x : Int × Int × Int) : dt (l ++ [x]) = dt l + cl x.2.1 * cl x.2.2 := by
  unfold dt
  rw [List.foldl_append]
  rfl
theorem dt_bd (l : List (Int × Int × Int)) : 0 ≤ dt l ∧ dt l ≤ l.length * 63001 := by
  have key : ∀ (l : List (Int × Int × Int)) (s : Int), s ≤ l.foldl (fun s x => s + cl x.2.1 * cl x.2.2) s ∧ l.foldl (fun s x => s + cl x.2.1 * cl x.2.2) s ≤ s + l.length * 63001 := by
    intro l
    induction l with
    | nil => intro s; simp
    | cons x l ih =>
      intro s
      obtain ⟨h1, h2⟩ := ih (s + cl x.2.1 * cl x.2.2)
      obtain ⟨a1, a2⟩ := cl_bd x.2.1
      obtain ⟨b1, b2⟩ := cl_bd x.2.2
      have h3 : 0 ≤ cl x.2.1 * cl x.2.2 := Int.mul_nonneg a1 b1
      have h4 : cl x.2.1 * cl x.2.2 ≤ 251 * 251 := Int.mul_le_mul a2 b2 b1 (by omega)
      simp only [List.foldl_cons, List.length_cons, Int.natCast_add, Int.natCast_one]
      omega
  have := key l 0
  unfold dt
  omega
/-- The sum of the products of the coefficients, column by column. -/
def dsum : List Tm → List Tm → Int
  | [], _ => 0
  | t :: a, b => t.2 * co b t.1 + dsum a b
theorem dsum_drop {p l : Int} : ∀ (a : List Tm) {s : Tm} {b : List Tm}, Cl p l a → s.1 ≤ l → dsum a (s :: b) = dsum a b
  | [], _, _, _, _ => rfl
  | t :: a, s, b, ⟨a1, a2, a3, a4, a5, a6⟩, h => by
    unfold dsum
    rw [dsum_drop a a6 (by omega)]
    have : co (s :: b) t.1 = co b t.1 := by
      conv => lhs; unfold co
      rw [if_neg (by omega)]
    rw [this]
theorem dsum_nil : ∀ a : List Tm, dsum a [] = 0
  | [] => rfl
  | t :: a => by
    unfold dsum
    rw [dsum_nil a]
    show t.2 * 0 + 0 = 0
    omega
theorem fold_dt (l : List (Int × Int × Int)) (s : Int) : l.foldl (fun s x => s + cl x.2.1 * cl x.2.2) s = s + dt l := by
  unfold dt
  induction l generalizing s with
  | nil => simp
  | cons x l ih =>
    simp only [List.foldl_cons]
    rw [ih, ih (0 + _)]
    omega
theorem dt_cons (x : Int × Int × Int) (l : List (Int × Int × Int)) : dt (x :: l) = cl x.2.1 * cl x.2.2 + dt l := by
  conv => lhs; unfold dt
  rw [List.foldl_cons, fold_dt]
  omega
theorem dt_mg {p l l' : Int} (hp : p ≤ 251) : ∀ (a b : List Tm), Cl p l a → Cl p l' b → dt (mg a b) = dsum a b
  | [], [], _, _ => by rw [mg]; rfl
  | t :: a, [], ⟨a1, a2, a3, a4, a5, a6⟩, hb => by
    rw [mg, dt_cons, dt_mg hp a [] a6 hb, dsum_nil, dsum_nil]
    show cl t.2 * cl 0 + 0 = 0
    rw [show cl 0 = 0 from rfl, Int.mul_zero]
    rfl
  | [], s :: b, ha, ⟨a1, a2, a3, a4, a5, a6⟩ => by
    rw [mg, dt_cons, dt_mg hp [] b ha a6]
    show cl 0 * cl s.2 + 0 = 0
    rw [show cl 0 = 0 from rfl, Int.zero_mul]
    rfl
  | t :: a, s :: b, ⟨a1, a2, a3, a4, a5, a6⟩, ⟨b1, b2, b3, b4, b5, b6⟩ => by
    rw [mg]
    split
    · rename_i h
      rw [dt_cons, dt_mg hp a (s :: b) a6 ⟨b1, b2, b3, b4, h, b6⟩]
      show cl t.2 * cl 0 + _ = t.2 * co (s :: b) t.1 + _
      rw [show cl 0 = 0 from rfl, Int.mul_zero, co_below (p := p) (last := t.1) (c := s :: b) ⟨b1, b2, b3, b4, h, b6⟩ (Int.le_refl _), Int.mul_zero]
    · rename_i h
      split
      · rename_i h2
        rw [dt_cons, dt_mg hp (t :: a) b ⟨a1, a2, a3, a4, h2, a6⟩ b6]
        show cl 0 * cl s.2 + _ = _
        rw [show cl 0 = 0 from rfl, Int.zero_mul, Int.zero_add]
        exact (dsum_drop (p := p) (l := s.1) (t :: a) ⟨a1, a2, a3, a4, h2, a6⟩ (Int.le_refl _)).symm
      · rename_i h2
        have e : s.1 = t.1 := by omega
        rw [dt_cons, dt_mg hp a b a6 b6]
        show cl t.2 * cl s.2 + _ = t.2 * co (s :: b) t.1 + dsum a (s :: b)
        rw [dsum_drop a a6 (by omega), cl_self (by omega) (by omega), cl_self (by omega) (by omega)]
        have : co (s :: b) t.1 = s.2 := by
          conv => lhs; unfold co
          rw [if_pos e]
        rw [this]
  termination_by a b => a.length + b.length
set_option maxRecDepth 100000 in
set_option maxHeartbeats 2000000 in
theorem dot_in (n : Nat) (hn : 6 ≤ n) (p : Int) (va vb : Value) (a b : List Tm) (w : World) (tb : Tab w) (hp : pr p = true) (hTa : TermsV w va a) (hTb : TermsV w vb b) (ca : Col p a) (cb : Col p b) (hla : a.length ≤ 1024) (hlb : b.length ≤ 1024) :
    CallsIn Fence.wide n Tryd.prog 59 #[.int .i64 p, va, vb] w fun e w' => e = .returned (.int .i64 (md p (dsum a b))) ∧ Below w.heap.size w w' := by
  have hpb := pr_bd hp
  have hml := mg_len a b
  have HDS := Lib.hid (dt_mg hpb.2 a b ca cb)
  have T := Lib.hid tb
  have TA := Lib.hid hTa
  have TB := Lib.hid hTb
  obtain ⟨aa, na, rfl, a1, a2, a3⟩ := hTa
  obtain ⟨ab, nb, rfl, b1, b2, b3⟩ := hTb
  clear a3 b3 tb
  refine callsIn_of_wp_marks Tryd.func59 rfl trivial ?_ rfl
  simp only [Tryd.ntmps59, List.size_toArray, List.length_cons, List.length_nil, Nat.reduceAdd, Nat.reduceSub, Array.replicate_succ, Array.replicate_zero, List.push_toArray, List.append_toArray, List.nil_append, List.cons_append]
  gi_wp2
  refine ⟨trivial, fun _ => by omega, (merged_in _ _ _ _ _ _ _ _).mono ?_⟩
  rintro e w' ⟨rfl, rfl⟩
  obtain ⟨W3, hW3⟩ : ∃ W3, W3 = ((w.alloc (.cells #[.int .i64 0] 3)).alloc (.cells #[.slice aa a.length na] 22)).alloc (.cells #[.slice ab b.length nb] 22) := ⟨_, rfl⟩
  have bC3 : Boxed W3 w.heap.size 3 (.int .i64 (dt [])) := by rw [hW3]; exact ((Boxed.new w _ _).alloc _).alloc _
  have bA3 : Boxed W3 (w.heap.size + 1) 22 (.slice aa a.length na) := by
    rw [hW3]
    have := Boxed.new (w.alloc (.cells #[.int .i64 0] 3)) 22 (.slice aa a.length na)
    simp only [World.size_alloc] at this
    exact this.alloc _
  have bB3 : Boxed W3 (w.heap.size + 1 + 1) 22 (.slice ab b.length nb) := by
    rw [hW3]
    have := Boxed.new ((w.alloc (.cells #[.int .i64 0] 3)).alloc (.cells #[.slice aa a.length na] 22)) 22 (.slice ab b.length nb)
    simp only [World.size_alloc] at this
    exact this
  have B3 : Below w.heap.size w W3 := by rw [hW3]; exact (((Below.refl _ w).alloc (Nat.le_refl _) _).alloc (by simp) _).alloc (by simp; omega) _
  have z3 : W3.heap.size = w.heap.size + 1 + 1 + 1 := by rw [hW3]; simp
  gi_wp2
  rw [← hW3]
  clear hW3
  refine wpIn_rangeFunc_ownH (F := Fence.wide) rfl (by omega) (gf := 88) (lb := #[.pointer (some ⟨w.heap.size + 1, 0, none⟩), .pointer (some ⟨w.heap.size + 1 + 1, 0, none⟩)]) rfl trivial (enters_of Tryd.func88 (by kernel_rfl) rfl)
    (merged_stops (n - 1) (by omega) p hpb.2 (w.heap.size + 1) (w.heap.size + 1 + 1) w.heap.size _ _ a b ca cb W3 B3.size (by omega) (by omega) bA3.cell bB3.cell (TA.out.below B3) (TB.out.below B3) (fun h => TA.out.lt h) (fun h => TB.out.lt h)) KpM.trans (KpM.put B3.size (by omega) (by omega)) (Below.refl _ _) (fun _ => rfl)
    (fun pre W => (Boxed W w.heap.size 3 (.int .i64 (dt pre)) ∧ Boxed W (w.heap.size + 1) 22 (.slice aa a.length na) ∧ Boxed W (w.heap.size + 1 + 1) 22 (.slice ab b.length nb)) ∧ Below w.heap.size w W)
    (fun _ _ _ => False)
    (OwnFrom.and (OwnFrom.and (Own.from (boxed_own _ _ _) _) (OwnFrom.and (Own.from (boxed_own _ _ _) _) (Own.from (boxed_own _ _ _) _))) (ownFrom_below (Nat.le_refl _) (by omega)))
    (fun _ _ _ _ _ hs _ _ => hs)
    ⟨⟨bC3, bA3, bB3⟩, B3⟩
    (fun x a' W => ∃ Bx, w.heap.size + 1 + 1 < Bx ∧ W.heap[Bx]? = some (.cells #[.int .i64 x.1, .int .i64 (cl x.2.1), .int .i64 (cl x.2.2)] 100 (0, 0)) ∧ a' = { tmps := #[.int .i64 p, .slice aa a.length na, .slice ab b.length nb, undef, undef, undef, .int .i64 0, .pointer (some ⟨w.heap.size, 0, none⟩), .pointer (some ⟨Bx, 0, none⟩), .slice aa a.length na, .slice ab b.length nb, .func (.func 88) #[] #[.pointer (some ⟨w.heap.size + 1, 0, none⟩), .pointer (some ⟨w.heap.size + 1 + 1, 0, none⟩)], .agg #[.int .i64 x.1, .int .i64 (cl x.2.1), .int .i64 (cl x.2.2)], undef, undef, undef, undef, undef, undef, undef, undef, undef, undef], defers := [] })
    (fun x a' _ X Y row hs hg hr => by obtain ⟨Bx, h1, h2, h3⟩ := hs; exact ⟨Bx, h1, (hg.block Bx (Array.getElem?_eq_some_iff.1 h2).1 (fun e => by obtain ⟨-, o, ho, hc⟩ := hr Bx e.symm; rw [h2] at ho; cases ho; cases hc)).trans h2, h3⟩)
    ?assign ?body ?done ?stop
  case assign =>
    rintro l pre x W K hI hK
    obtain ⟨⟨bC, bA, bB⟩, hB⟩ := hI
    unfold enP
    gi_wp2
    exact hK _ _ ((KeepsOthers.alloc _ _).from _) (KpM.of ((Below.refl _ W).alloc (Nat.le_refl _) _) hB.size bA.lt bB.lt) ⟨⟨bC.alloc _, bA.alloc _, bB.alloc _⟩, hB.alloc hB.size _⟩ ⟨W.heap.size, bB.lt, World.alloc_heap_new W _, rfl⟩
  case body =>
    rintro l pre x a' W hl ⟨r, hr⟩ ⟨⟨bC, bA, bB⟩, hB⟩ ⟨Bx, hBx, bX, rfl⟩ hlt
    have c2 := bC.cell
    have c3 := bC.frozen
    have x0 : W.cell? ⟨Bx, 0, none⟩ = some (.int .i64 x.1) := by simp [World.cell?, bX]
    have x1 : W.cell? ⟨Bx, 1, none⟩ = some (.int .i64 (cl x.2.1)) := by simp [World.cell?, bX]
    have x2 : W.cell? ⟨Bx, 2, none⟩ = some (.int .i64 (cl x.2.2)) := by simp [World.cell?, bX]
    have hds := dt_snoc pre x
    obtain ⟨y1, y2⟩ := cl_bd x.2.1
    obtain ⟨y3, y4⟩ := cl_bd x.2.2
    have hdb := dt_bd pre
    obtain ⟨S, hS⟩ : ∃ S, S = dt pre := ⟨_, rfl⟩
    rw [← hS] at hds c2 hdb
    obtain ⟨A, hA⟩ : ∃ A, A = cl x.2.1 := ⟨_, rfl⟩
    obtain ⟨C, hC⟩ : ∃ C, C = cl x.2.2 := ⟨_, rfl⟩
    rw [← hA, ← hC] at hds
    rw [← hA] at y1 y2 x1
    rw [← hC] at y3 y4 x2
    have y5 : 0 ≤ A * C := Int.mul_nonneg y1 y3
    have y6 : A * C ≤ 251 * 251 := Int.mul_le_mul (by omega) (by omega) (by omega) (by omega)
    have y7 : 0 ≤ S := hdb.1
    have y8 : S ≤ 1000000000 := by omega
    have HDN := Lib.hid hds
    rw [← hA, ← hC]
    clear hds hA hC hS hdb
    gi_wp2
    have bC9 := bC.set (.int .i64 (S + A * C))
    rw [← HDN.out] at bC9 ⊢
    have bA9 := bA.other (B' := w.heap.size) (by omega) (.int .i64 (dt (pre ++ [x])))
    have bB9 := bB.other (B' := w.heap.size) (by omega) (.int .i64 (dt (pre ++ [x])))
    exact ⟨(KeepsOthers.setCell _ _ _).from _, ⟨(Below.refl _ W).setCell (p := ⟨w.heap.size, 0, none⟩) (Nat.le_refl _) _, bA9.trans bA.symm, bB9.trans bB.symm⟩, ⟨bC9, bA9, bB9⟩, hB.setCell (p := ⟨w.heap.size, 0, none⟩) (Nat.le_refl _) _⟩
  case done =>
    rintro D ys W hD rfl ⟨⟨bC, bA, bB⟩, hB⟩ hK
    have hc := bC.cell
    rw [HDS.out] at hc
    have C2 := Lib.hid (mod_ok p (dsum a b) W (T.out.on hB) hp)
    gi_wp2
    refine ⟨trivial, fun _ => by omega, (callsIn_wide.2 C2.out).mono ?_⟩
    rintro e w' ⟨rfl, rfl⟩
    gi_wp2
    refine ⟨by simp, .inl ⟨_, _, rfl, run_takeDeferred hK, ?_⟩⟩
    exact ⟨_, results_tmp rfl _ _ _, rfl, hB.trans (belowK_b (w := w) (Nat.le_refl _) W D _ _ (by omega) hK rfl rfl)⟩
  case stop =>
    rintro D c pre W _ _ h _
    exact h.elim
theorem dot_any (p : Int) (va vb : Value) (a b : List Tm) (w : World) (tb : Tab w) (hp : pr p = true) (hTa : TermsV w va a) (hTb : TermsV w vb b) (ca : Col p a) (cb : Col p b) (hla : a.length ≤ 1024) (hlb : b.length ≤ 1024) :
    Calls Tryd.prog 59 #[.int .i64 p, va, vb] w fun e w' => e = .returned (.int .i64 (md p (dsum a b))) ∧ Below w.heap.size w w' :=
  (callsIn_wide (n := 6)).1 (dot_in 6 (Nat.le_refl _) p va vb a b w tb hp hTa hTb ca cb hla hlb)
end Go.Proofs.YtdhcffboaiajeaaDoor
