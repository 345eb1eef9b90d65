/-
  The walk of ModpResidues: it answers true at every argument.
-/
import Derived.Test.YthglnchcggpdlaaDoorAll
namespace Go.Proofs.YthglnchcggpdlaaDoor
open Go.RowKit M

set_option maxHeartbeats 1000000 in
set_option maxRecDepth 100000 in
theorem modpResidues_walk (which a b n : Int) (w : World) (hn : n ≤ 9223372036854775807) (ht : Tab w) :
    Calls Tryd.prog 9 #[.int .i64 which, .int .i64 a, .int .i64 b, .int .i64 n] w fun e w' => e = .returned (.bool true) ∧ Below w.heap.size w w' := by
  have hF := fun w => field_any which w
  have hp := fld_pr which
  generalize fld which = p at hF hp
  have HF := Lib.hid hF
  have HT := Lib.hid (fun w' hb => Tab.below (w' := w') ht ht.pos hb)
  obtain ⟨a1, a2⟩ := md_bd hp a
  have e1 := md_md p a
  have e2 := ad_md2 p a b
  have e3 := ml_md2 p a b
  have e4 := powV_md p a n
  have e5 := powE_md p a n
  have e6 := lgV_md p a b
  have e7 := lgE_md p a b
  have e8 := divV_md p a b
  have e9 := invE_md p b
  have HN := Lib.hid hn
  clear hF ht hn
  go_enter Tryd.func9, Tryd.ntmps9
  go_wp2_with fail
  refine (HF.out _).mono ?_
  rintro e w1 ⟨rfl, hb1⟩
  have T1 := Lib.hid (HT.out _ hb1)
  have B1 := Lib.hid hb1
  clear hb1
  go_wp2_with (first
    | (go_at_call 41; refine (plus_ok p _ _ _ T1.out hp).mono ?_; rintro e w' ⟨rfl, rfl⟩)
    | (go_at_call 42; refine (product_ok p _ _ _ T1.out hp).mono ?_; rintro e w' ⟨rfl, rfl⟩)
    | (go_at_call 13; refine (mod_ok p _ _ T1.out hp).mono ?_; rintro e w' ⟨rfl, rfl⟩)
    | (go_at_call 21; refine (div_all p _ _ _ T1.out hp).mono ?_; rintro e w' ⟨rfl, rfl⟩)
    | (go_at_call 25; refine (pow_all p _ n _ T1.out hp HN.out).mono ?_; rintro e w' ⟨rfl, rfl⟩)
    | (go_at_call 31; refine (log_all p _ _ _ T1.out hp).mono ?_; rintro e w' ⟨rfl, rfl⟩)
    | (go_at_call 35; refine (awake_true _ T1.out).mono ?_; rintro e w' ⟨rfl, rfl⟩))
  go_ret
  exact ⟨rfl, B1.out⟩
end Go.Proofs.YthglnchcggpdlaaDoor
