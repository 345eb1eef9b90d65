/-
  The walk of ModpSums: it answers true for every number and every list.
-/
import Derived.Test.YthglnchcggpdlaaDoorSum
namespace Go.Proofs.YthglnchcggpdlaaDoor
open Go.RowKit M

theorem sums_gen (p : Int) (a : Option Addr) (n c : Nat) (zs : List Int) (w : World) (x e0 : Int) (ht : Tab w) (h : Ints w w.heap.size a n zs) (hnil : n = 0 → a = none → c = 0)
    (HS : Hid (∀ (W : World) (B : Nat) (b : Option Addr) (k : Nat), Tab W → Ints W B b n zs → Calls Tryd.prog 37 #[.int .i64 p, .slice b n k] W (Two x e0 W)))
    (HR : Hid (∀ (W : World) (B : Nat) (b : Option Addr) (k : Nat), Ints W B b n zs → Calls Tryd.prog 38 #[.int .i64 p, .slice b n k] W (Two x e0 W))) :
    Calls Tryd.prog 4 #[.int .i64 p, .slice a n c] w fun e w' => e = .returned (.bool true) ∧ Below w.heap.size w w' := by
  have HC := Lib.hid (copy_all a n c zs w h hnil)
  have HT := Lib.hid (fun w' hb => Tab.below (w' := w') ht ht.pos hb)
  have HI := Lib.hid (fun w' hb => Ints.below (w' := w') h hb)
  clear ht h hnil
  go_enter Tryd.func4, Tryd.ntmps4
  go_wp2_with fail
  refine HC.out.mono ?_
  rintro e w1 ⟨a', c', rfl, hI1, hb1⟩
  have T1 := Lib.hid (HT.out _ hb1)
  have I0 := Lib.hid (HI.out _ hb1)
  have I1 := Lib.hid hI1
  have B1 := Lib.hid hb1
  clear hb1 hI1 HC HT HI
  go_wp2_with fail
  refine (HS.out _ _ _ _ T1.out I1.out).mono ?_
  rintro e w' ⟨rfl, rfl⟩
  go_wp2_with fail
  refine (HR.out _ _ _ _ I0.out).mono ?_
  rintro e w' ⟨rfl, rfl⟩
  go_wp2_with fail
  refine (same_all _ _ _ _ _ _ _ _ _ I1.out I0.out).mono ?_
  rintro e w' ⟨rfl, d, rfl⟩
  go_wp2_with fail
  refine (awake_true _ (T1.out.drewN _)).mono ?_
  rintro e w' ⟨rfl, rfl⟩
  go_wp2
  go_ret
  exact ⟨rfl, below_drewN' B1.out _⟩
theorem modpSums_walk (p : Int) (a : Option Addr) (n c : Nat) (zs : List Int) (w : World) (ht : Tab w) (h : Ints w w.heap.size a n zs) (hnil : n = 0 → a = none → c = 0) :
    Calls Tryd.prog 4 #[.int .i64 p, .slice a n c] w fun e w' => e = .returned (.bool true) ∧ Below w.heap.size w w' := by
  cases hp : pr p
  · exact sums_gen p a n c zs w 0 8 ht h hnil (fun W _ b k t _ => sum_no p b n k W t hp) (fun W _ b k _ => rsum_no p b n k W hp)
  · exact sums_gen p a n c zs w _ 0 ht h hnil (fun W B b k t i => sum_all p b n k B zs W t hp i) (fun W B b k i => rsum_all p b n k B zs W hp i)
end Go.Proofs.YthglnchcggpdlaaDoor
