/-
  What sparse returns.
-/
import Derived.Test.YtdhcffboaiajeaaDoorVecB
namespace Go.Proofs.YtdhcffboaiajeaaDoor
open Go.RowKit M

/-- In world w the slice v holds n integers, f i at i. -/
def IntsF (w : World) (v : Value) (n : Nat) (f : Int → Int) : Prop := ∃ a c, v = .slice a n c ∧ n ≤ c ∧ c ≤ maxLen ∧ (0 < n → ∃ g o, a = some ⟨g, o, none⟩ ∧ g < w.heap.size ∧ ∀ i : Nat, i < n → w.cell? ⟨g, o + i, none⟩ = some (.int .i64 (f i)))
theorem VecB.ints {w : World} {k : Nat} {f : Int → Int} (h : VecB w k f) : IntsF w (.slice (some ⟨k, 0, none⟩) 1024 1024) 1024 f :=
  ⟨_, _, rfl, Nat.le_refl _, by unfold maxLen; omega, fun _ => ⟨k, 0, rfl, h.lt, fun i hi => by rw [Nat.zero_add]; exact h.cell i hi⟩⟩
theorem IntsV.ints {w : World} {v : Value} {l : List Int} (h : IntsV w v l) : IntsF w v l.length (fun i => l.getD i.toNat 0) := by
  obtain ⟨a, n, rfl, h1, h2, h3⟩ := h
  refine ⟨a, n, rfl, h1, h2, fun h0 => ?_⟩
  obtain ⟨g, o, e, hg, hc⟩ := h3 h0
  refine ⟨g, o, e, hg, fun i hi => ?_⟩
  have e2 : l.getD ((i : Int)).toNat 0 = l[i] := by
    rw [Int.toNat_natCast, List.getD_eq_getElem?_getD, List.getElem?_eq_getElem hi]
    rfl
  show _ = some (Value.int .i64 (l.getD ((i : Int)).toNat 0))
  rw [hc i hi, e2]
theorem infoT : (Tryd.prog.info? 37).map (fun i => (i.zero, i.size, i.bytes)) = some (some (.agg #[.int .i64 0, .int .i64 0]), 2, 16) := by kernel_rfl
theorem sp_len (f : Int → Int) : ∀ n k, (sp f k n).length ≤ n
  | 0, _ => Nat.le_refl _
  | n + 1, k => by
    have := sp_len f n (k + 1)
    unfold sp
    split
    · omega
    · simp only [List.length_cons]; omega
theorem two_at (w : World) (a b : Value) (t : TypeId) : ∀ j u, [a, b][j]? = some u → (w.alloc (.cells #[a, b] t)).cell? ((⟨w.heap.size, 0, none⟩ : Addr).add j) = some u := by
  intro j u hu
  rw [Addr.add_lit, World.cell?_alloc_at _ _ _ _ rfl]
  match j, hu with
  | 0, hu => simpa using hu
  | 1, hu => simpa using hu
  | j + 2, hu => simp at hu
theorem TermsV.own_lt {w : World} {B : Nat} {v : Value} {e : TypeId} {z n : Nat} {xs : List Value} (h : w.ownsRow B e z v n xs) : ∀ k, v.ownBlock = some k → B ≤ k := fun k hk => (h.lt k hk).1
set_option maxHeartbeats 1000000 in
set_option maxRecDepth 100000 in
theorem sparse_any (p : Int) (v : Value) (n : Nat) (f : Int → Int) (w : World) (tb : Tab w) (hp : pr p = true) (hn : n ≤ 1024) (h : IntsF w v n f) :
    Calls Tryd.prog 60 #[.int .i64 p, v] w (GivesC (sp (fun i => md p (f i)) 0 n) w) := by
  obtain ⟨i0, hi, hz0, hz1, hz2⟩ := info_parts infoT
  have T := Lib.hid tb
  obtain ⟨a, c, rfl, h1, h2, h3⟩ := h
  unfold maxLen at h2
  clear tb
  go_enter Tryd.func60, Tryd.ntmps60
  go_wp2
  go_loopw [5, 11] (fun o i wr => ∃ k : Nat, k ≤ n ∧ i = .int .i64 k ∧ wr.ownsRow w.heap.size 37 2 o (sp (fun i => md p (f i)) 0 k).length (flat2 (sp (fun i => md p (f i)) 0 k)) ∧ Below w.heap.size w wr) (fun _ i _ => n - (intOf i).toNat)
  case atStart => exact ⟨0, Nat.zero_le _, rfl, World.ownsRow_nil _ _ _ _, Below.refl _ _⟩
  case round =>
    obtain ⟨k, hk, rfl, hR, hB⟩ := hrel
    by_cases hlt : k < n
    · obtain ⟨g, o, rfl, hg, hc⟩ := h3 (by omega)
      have c0 := (hB.cell (p := ⟨g, o + k, none⟩) hg).trans (hc k hlt)
      have C1 := Lib.hid (mod_ok p (f k) wr (T.out.on hB) hp)
      have hs := sp_snoc (fun i => md p (f i)) k 0
      rw [Nat.zero_add] at hs
      have hl := sp_len (fun i => md p (f i)) k 0
      obtain ⟨x, hx⟩ : ∃ x, x = md p (f k) := ⟨_, rfl⟩
      rw [← hx] at C1 hs
      obtain ⟨y, hy⟩ : ∃ y, y = f k := ⟨_, rfl⟩
      rw [← hy] at c0 C1
      obtain ⟨S, hS⟩ : ∃ S, S = sp (fun i => md p (f i)) 0 k := ⟨_, rfl⟩
      rw [← hS] at hR hs hl
      have HB := Lib.hid hB
      have HR := Lib.hid hR
      have HS := Lib.hid hs
      clear hc h3 hB hs hx hy hR
      by_cases h0 : x = 0
      · have e0 : (x == 0) = true := beq_iff_eq.2 h0
        go_wp2_with (go_at_call 77; refine Calls.mono C1.out ?_; rintro e w' ⟨rfl, rfl⟩)
        exact ⟨⟨k + 1, by omega, by go_num, by rw [HS.out, if_pos h0, List.append_nil]; exact HR.out, HB.out⟩, by simp [intOf]; omega⟩
      · have e0 : (x == 0) = false := beq_eq_false_iff_ne.2 h0
        have HS2 := Lib.hid (show sp (fun i => md p (f i)) 0 (k + 1) = S ++ [((k : Int), x)] from by rw [HS.out, if_neg h0])
        clear h0
        go_wp2_with (first | (go_at_call 77; refine Calls.mono C1.out ?_; rintro e w' ⟨rfl, rfl⟩) | (at_builtin; refine wpList_append_own _ rfl _ _ 22 rfl w.heap.size 37 i0 (.agg #[.int .i64 0, .int .i64 0]) 2 16 Tryd.underlying22 hi hz0 hz1 hz2 rfl (by decide) _ _ _ rfl (HR.out.alloc _) ⟨wr.heap.size, 0, none⟩ 1 1 [.int .i64 k, .int .i64 x] rfl rfl (two_at _ _ _ _) (by simp [Value.oneCell']) (by unfold maxLen; omega) (by omega) (by have := HB.out.size; simp; omega) ?_; intro v' w1 hown' hgrow _) | fail)
        refine ⟨⟨k + 1, by omega, by go_num, ?_, HB.out.grown ((World.grownBy_alloc wr (.cells #[.int .i64 k, .int .i64 x] 37) _).trans hgrow) HB.out.size (fun j e => (HR.out.lt j e).1)⟩, by simp [intOf]; omega⟩
        rw [HS2.out, flat2_append, List.length_append]
        exact hown'
    · have hkl : k = n := by omega
      have HB := Lib.hid hB
      have HR := Lib.hid hR
      clear h3 hB hR
      go_wp2
      go_ret
      rw [hkl] at HR
      exact ⟨_, rfl, TermsV.own HR.out, TermsV.own_lt HR.out, HB.out⟩
end Go.Proofs.YtdhcffboaiajeaaDoor
