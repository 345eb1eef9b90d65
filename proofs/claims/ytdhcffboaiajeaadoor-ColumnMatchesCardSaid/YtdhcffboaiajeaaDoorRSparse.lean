/-
  What the reference's Sparse returns.
-/
import Derived.Test.YtdhcffboaiajeaaDoorDense
namespace Go.Proofs.YtdhcffboaiajeaaDoor
open Go.RowKit M

set_option maxHeartbeats 1000000 in
set_option maxRecDepth 100000 in
theorem rsparse_any (v : Value) (n : Nat) (f : Int → Int) (w : World) (hn : n ≤ 2048) (h : IntsF w v n f) :
    Calls Tryd.prog 61 #[v] w (GivesC (sp f 0 n) w) := by
  obtain ⟨i0, hi, hz0, hz1, hz2⟩ := info_parts infoT
  obtain ⟨a, c, rfl, h1, h2, h3⟩ := h
  unfold maxLen at h2
  go_enter Tryd.func61, Tryd.ntmps61
  go_wp2
  go_loopw [3, 4] (fun o i wr => ∃ k : Nat, k ≤ n ∧ i = .int .i64 k ∧ wr.ownsRow w.heap.size 37 2 o (sp f 0 k).length (flat2 (sp f 0 k)) ∧ Below w.heap.size w wr) (fun _ i _ => n - (intOf i).toNat)
  case atStart => exact ⟨0, Nat.zero_le _, rfl, World.ownsRow_nil _ _ _ _, Below.refl _ _⟩
  case round =>
    obtain ⟨k, hk, rfl, hR, hB⟩ := hrel
    by_cases hlt : k < n
    · obtain ⟨g, o, rfl, hg, hc⟩ := h3 (by omega)
      have c0 := (hB.cell (p := ⟨g, o + k, none⟩) hg).trans (hc k hlt)
      have hs := sp_snoc f k 0
      rw [Nat.zero_add] at hs
      have hl := sp_len f k 0
      obtain ⟨x, hx⟩ : ∃ x, x = f k := ⟨_, rfl⟩
      rw [← hx] at c0 hs
      obtain ⟨S, hS⟩ : ∃ S, S = sp f 0 k := ⟨_, rfl⟩
      rw [← hS] at hR hs hl
      have HB := Lib.hid hB
      have HR := Lib.hid hR
      have HS := Lib.hid hs
      clear hc h3 hB hs hx hR
      by_cases h0 : x = 0
      · have e0 : (x == 0) = true := beq_iff_eq.2 h0
        go_wp2
        exact ⟨⟨k + 1, by omega, by go_num, by rw [HS.out, if_pos h0, List.append_nil]; exact HR.out, HB.out⟩, by simp [intOf]; omega⟩
      · have e0 : (x == 0) = false := beq_eq_false_iff_ne.2 h0
        have HS2 := Lib.hid (show sp f 0 (k + 1) = S ++ [((k : Int), x)] from by rw [HS.out, if_neg h0])
        clear h0
        go_wp2_with (first | (at_builtin; refine wpList_append_own _ rfl _ _ 22 rfl w.heap.size 37 i0 (.agg #[.int .i64 0, .int .i64 0]) 2 16 Tryd.underlying22 hi hz0 hz1 hz2 rfl (by decide) _ _ _ rfl (HR.out.alloc _) ⟨wr.heap.size, 0, none⟩ 1 1 [.int .i64 k, .int .i64 x] rfl rfl (two_at _ _ _ _) (by simp [Value.oneCell']) (by unfold maxLen; omega) (by omega) (by have := HB.out.size; simp; omega) ?_; intro v' w1 hown' hgrow _) | fail)
        refine ⟨⟨k + 1, by omega, by go_num, ?_, HB.out.grown ((World.grownBy_alloc wr (.cells #[.int .i64 k, .int .i64 x] 37) _).trans hgrow) HB.out.size (fun j e => (HR.out.lt j e).1)⟩, by simp [intOf]; omega⟩
        rw [HS2.out, flat2_append, List.length_append]
        exact hown'
    · have hkl : k = n := by omega
      have HB := Lib.hid hB
      have HR := Lib.hid hR
      clear h3 hB hR
      go_wp2
      go_ret
      rw [hkl] at HR
      exact ⟨_, rfl, TermsV.own HR.out, TermsV.own_lt HR.out, HB.out⟩
end Go.Proofs.YtdhcffboaiajeaaDoor
