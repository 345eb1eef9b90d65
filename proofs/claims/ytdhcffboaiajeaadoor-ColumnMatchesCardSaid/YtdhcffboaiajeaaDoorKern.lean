/-
  What kernel returns.
-/
import Derived.Test.YtdhcffboaiajeaaDoorRest
import Derived.Test.YtdhcffboaiajeaaDoorKer
import Derived.Test.YtdhcffboaiajeaaDoorPlus
namespace Go.Proofs.YtdhcffboaiajeaaDoor
open Go.RowKit M
open Go.Maps

/-- The block of a slice. -/
def bl (v : Value) : List Nat := v.ownBlock.toList
theorem mem_bl {v : Value} {g : Nat} : g ∈ bl v ↔ v.ownBlock = some g := by
  unfold bl
  cases h : v.ownBlock with
  | none => simp
  | some k => simp [eq_comm]
theorem fld_of {q : Nat} [NeZero q] (hp : pr (q : Int) = true) : Fld q := by
  intro a ha
  have hb := pr_bd hp
  have h1 : md q ((a.val : Nat) : Int) ≠ 0 := by
    intro h
    apply ha
    rw [← io_self a, ← io_zero, io_eq, h]
    simp [md]
  have h2 := inv_left hp ((a.val : Nat) : Int) h1
  refine ⟨io q (pw q ((a.val : Nat) : Int) ((q : Int) - 2).toNat), ?_⟩
  rw [show a * io q (pw q ((a.val : Nat) : Int) ((q : Int) - 2).toNat) = io q (pw q ((a.val : Nat) : Int) ((q : Int) - 2).toNat * md q ((a.val : Nat) : Int)) from by rw [io_mul, io_md, io_self]; grind, ← io_one, io_eq]
  show _ % _ = _ % _
  rw [h2, Int.emod_eq_of_lt (by omega) (by omega)]
theorem EchV.grown {W W' : World} {B s m : Nat} {S : List Nat} {v : Value} {p : Int} {E : List (List Tm)} (h : EchV W B s m S v p E) {row : Option Nat} (hg : W.grownBy W' row) (hr : ∀ g, row = some g → g ∈ S ∧ g ≠ s ∧ g ≠ m) : EchV W' B s m S v p E := by
  have hs : some s ≠ row := fun e => (hr s e.symm).2.1 rfl
  have hm : some m ≠ row := fun e => (hr m e.symm).2.2 rfl
  have hb := hg.block s h.lt hs
  exact ⟨h.ins, h.inm, h.bs, h.bm, h.ne, Nat.lt_of_lt_of_le h.lt hg.size, hg.cell h.c0 hs, hg.cell h.c1 hs, hg.cell h.c2 hs, (World.frozen?_of_block (a := ⟨s, 1, none⟩) hb).trans h.f1, h.row.by hg.size (fun k hk hn => hg.block k hk (fun e => hn (hr k e.symm).1)), h.map.by hg hm⟩
/-- The three lists of the kernel's loop, apart from each other. -/
structure KL (W : World) (B s m : Nat) (v vm vz : Value) (p : Int) (E M Z : List (List Tm)) : Prop where
  ech : EchV W B s m (s :: m :: bl vm ++ bl vz) v p E
  mad : OwnC W B vm M (s :: m :: bl v ++ bl vz)
  zer : OwnC W B vz Z (s :: m :: bl v ++ bl vm)
theorem KL.below {W W' : World} {B s m : Nat} {v vm vz : Value} {p : Int} {E M Z : List (List Tm)} (h : KL W B s m v vm vz p E M Z) (hb : Below W.heap.size W W') : KL W' B s m v vm vz p E M Z := ⟨h.ech.below hb, h.mad.below hb, h.zer.below hb⟩
theorem KL.lts {W : World} {B s m : Nat} {v vm vz : Value} {p : Int} {E M Z : List (List Tm)} (h : KL W B s m v vm vz p E M Z) : s < W.heap.size ∧ m < W.heap.size ∧ (∀ g, g ∈ bl v → g < W.heap.size) ∧ (∀ g, g ∈ bl vm → g < W.heap.size) ∧ ∀ g, g ∈ bl vz → g < W.heap.size :=
  ⟨h.ech.lt, h.ech.map.lt, fun g hg => (h.ech.row.lt g (mem_bl.1 hg)).2, fun g hg => (h.mad.lt g (mem_bl.1 hg)).2, fun g hg => (h.zer.lt g (mem_bl.1 hg)).2⟩
theorem KL.start {W : World} {B s m : Nat} {v : Value} {p : Int} {E : List (List Tm)} (h : EchV W B s m [s, m] v p E) : KL W B s m v (.slice none 0 0) (.slice none 0 0) p E [] [] :=
  ⟨h.swap (fun g hg => .inl (by simpa [bl, Value.ownBlock] using hg)) (by simp) (by simp), OwnC.nil _ _ _, OwnC.nil _ _ _⟩
/-- Behind a join. -/
theorem KL.joined {W W' : World} {B s m : Nat} {v v' vm vz : Value} {p : Int} {E E' M Z : List (List Tm)} (h : KL W B s m v vm vz p E M Z) (hE : EchV W' B s m (s :: m :: bl vm ++ bl vz) v' p E') (hO : Outs W W' s m v v') : KL W' B s m v' vm vz p E' M Z := by
  have key : ∀ {u : Value} {L : List (List Tm)} {R : List Nat}, OwnC W B u L (s :: m :: bl v ++ R) → OwnC W' B u L (s :: m :: bl v' ++ R) := by
    intro u L R hu
    have h1 : OwnC W B u L (s :: m :: bl v ++ bl v' ++ R) := hu.swap fun g hg => by
      simp only [List.mem_append, List.mem_cons] at hg ⊢
      rcases hg with ((g1 | g1 | g1) | g1) | g1
      · exact .inl (.inl (.inl g1))
      · exact .inl (.inl (.inr (.inl g1)))
      · exact .inl (.inl (.inr (.inr g1)))
      · rcases hO.loc with e | e
        · rw [mem_bl, e, ← mem_bl] at g1
          exact .inl (.inl (.inr (.inr g1)))
        · exact .inr (e g (mem_bl.1 g1))
      · exact .inl (.inr g1)
    have h2 : OwnC W' B u L (s :: m :: bl v ++ bl v' ++ R) := h1.by hO.size fun k hk hn => by
      simp only [List.mem_append, List.mem_cons, not_or] at hn
      exact hO.block k hk hn.1.1.1 hn.1.1.2.1 (fun e => hn.1.1.2.2 (mem_bl.2 e))
    exact h2.swap fun g hg => by
      simp only [List.mem_append, List.mem_cons] at hg ⊢
      rcases hg with (g1 | g1 | g1) | g1
      · exact .inl (.inl (.inl (.inl g1)))
      · exact .inl (.inl (.inl (.inr (.inl g1))))
      · exact .inl (.inl (.inr g1))
      · exact .inl (.inr g1)
  exact ⟨hE, key h.mad, key h.zer⟩
/-- Behind an append to the second list. -/
theorem KL.made {W W1 : World} {B s m : Nat} {v vm vm' vz u : Value} {p : Int} {E M Z : List (List Tm)} {c : List Tm} {ts : List Value} (h : KL W B s m v vm vz p E M Z) (hl : ts.length = M.length) (hi : ∀ i, i < M.length → TermsV W (ts.getD i undef) (M.getD i []) ∧ (M.getD i [] ≠ [] → ∀ g, (ts.getD i undef).ownBlock = some g → vm.ownBlock ≠ some g ∧ g ∉ (s :: m :: bl v ++ bl vz))) (hT : TermsV W u c)
    (hu : c ≠ [] → ∀ g, u.ownBlock = some g → vm.ownBlock ≠ some g ∧ g ∉ (s :: m :: bl v ++ bl vz)) (o : Obj) (hown : W1.ownsRow B 22 1 vm' (M.length + 1) (ts ++ [u])) (hg : (W.alloc o).grownBy W1 vm.ownBlock) (hloc : vm'.ownBlock = vm.ownBlock ∨ vm'.ownBlock = some (W.alloc o).heap.size) : KL W1 B s m v vm' vz p E (M ++ [c]) Z := by
  obtain ⟨l1, l2, l3, l4, l5⟩ := h.lts
  have hS : ∀ g, g ∈ (s :: m :: bl v ++ bl vz) → g < W.heap.size := fun g hg => by
    simp only [List.mem_append, List.mem_cons] at hg
    rcases hg with (rfl | rfl | g1) | g1
    · exact l1
    · exact l2
    · exact l3 g g1
    · exact l5 g g1
  have hm' : ∀ g, g ∈ bl vm' → g ∈ bl vm ∨ (W.alloc o).heap.size ≤ g := fun g hg => by
    rcases hloc with e | e
    · rw [mem_bl, e, ← mem_bl] at hg; exact .inl hg
    · rw [mem_bl, e] at hg
      injection hg with hg
      exact .inr (by omega)
  have ba : Below W.heap.size W (W.alloc o) := (Below.refl _ W).alloc (Nat.le_refl _) _
  refine ⟨?_, OwnC.snoc hl hi h.mad.far hT hu hS o hown hg hloc, ?_⟩
  · have e1 := h.ech.below ba
    have e2 : EchV (W.alloc o) B s m (s :: m :: bl vm ++ bl vm' ++ bl vz) v p E := e1.swap (fun g hg => by
      simp only [List.mem_append, List.mem_cons] at hg ⊢
      rcases hg with ((g1 | g1 | g1) | g1) | g1
      · exact .inl (.inl (.inl g1))
      · exact .inl (.inl (.inr (.inl g1)))
      · exact .inl (.inl (.inr (.inr g1)))
      · rcases hm' g g1 with g2 | g2
        · exact .inl (.inl (.inr (.inr g2)))
        · exact .inr g2
      · exact .inl (.inr g1)) (by simp) (by simp)
    have e3 := e2.grown hg (fun g e => ⟨by have := mem_bl.2 e; simp [this], fun e2 => (h.mad.far g e) (by simp [e2]), fun e2 => (h.mad.far g e) (by simp [e2])⟩)
    exact e3.swap (fun g hg => by
      simp only [List.mem_append, List.mem_cons] at hg ⊢
      rcases hg with (g1 | g1 | g1) | g1
      · exact .inl (.inl (.inl (.inl g1)))
      · exact .inl (.inl (.inl (.inr (.inl g1))))
      · exact .inl (.inl (.inr g1))
      · exact .inl (.inr g1)) (by simp) (by simp)
  · have z1 := h.zer.below ba
    have z2 : OwnC (W.alloc o) B vz Z (s :: m :: bl v ++ bl vm ++ bl vm') := z1.swap fun g hg => by
      simp only [List.mem_append, List.mem_cons] at hg ⊢
      rcases hg with ((g1 | g1 | g1) | g1) | g1
      · exact .inl (.inl (.inl g1))
      · exact .inl (.inl (.inr (.inl g1)))
      · exact .inl (.inl (.inr (.inr g1)))
      · exact .inl (.inr g1)
      · rcases hm' g g1 with g2 | g2
        · exact .inl (.inr g2)
        · exact .inr g2
    have z3 : OwnC W1 B vz Z (s :: m :: bl v ++ bl vm ++ bl vm') := z2.by hg.size fun k hk hn => hg.block k hk (fun e => hn (by have := mem_bl.2 e.symm; simp [this]))
    exact z3.swap fun g hg => by
      simp only [List.mem_append, List.mem_cons] at hg ⊢
      rcases hg with (g1 | g1 | g1) | g1
      · exact .inl (.inl (.inl (.inl g1)))
      · exact .inl (.inl (.inl (.inr (.inl g1))))
      · exact .inl (.inl (.inl (.inr (.inr g1))))
      · exact .inl (.inr g1)
/-- Behind an append to the third list. -/
theorem KL.zero {W W1 : World} {B s m : Nat} {v vm vz vz' u : Value} {p : Int} {E M Z : List (List Tm)} {c : List Tm} {ts : List Value} (h : KL W B s m v vm vz p E M Z) (hl : ts.length = Z.length) (hi : ∀ i, i < Z.length → TermsV W (ts.getD i undef) (Z.getD i []) ∧ (Z.getD i [] ≠ [] → ∀ g, (ts.getD i undef).ownBlock = some g → vz.ownBlock ≠ some g ∧ g ∉ (s :: m :: bl v ++ bl vm))) (hT : TermsV W u c)
    (hu : c ≠ [] → ∀ g, u.ownBlock = some g → vz.ownBlock ≠ some g ∧ g ∉ (s :: m :: bl v ++ bl vm)) (o : Obj) (hown : W1.ownsRow B 22 1 vz' (Z.length + 1) (ts ++ [u])) (hg : (W.alloc o).grownBy W1 vz.ownBlock) (hloc : vz'.ownBlock = vz.ownBlock ∨ vz'.ownBlock = some (W.alloc o).heap.size) : KL W1 B s m v vm vz' p E M (Z ++ [c]) := by
  have hsw : KL W B s m v vz vm p E Z M := ⟨h.ech.swap (fun g hg => .inl (by simp only [List.mem_append, List.mem_cons] at hg ⊢; rcases hg with (g1 | g1 | g1) | g1 <;> simp [g1])) (by simp) (by simp), h.zer, h.mad⟩
  have r := hsw.made hl hi hT hu o hown hg hloc
  exact ⟨r.ech.swap (fun g hg => .inl (by simp only [List.mem_append, List.mem_cons] at hg ⊢; rcases hg with (g1 | g1 | g1) | g1 <;> simp [g1])) (by simp) (by simp), r.zer, r.mad⟩
end Go.Proofs.YtdhcffboaiajeaaDoor
