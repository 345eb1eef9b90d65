/-
  What the laws ask of rests, bases and kernels, in plain mathematics.
-/
import Derived.Test.YtdhcffboaiajeaaDoorVec
namespace Go.Proofs.YtdhcffboaiajeaaDoor
open M

section
variable {q : Nat} [NeZero q]
theorem Spn.of_mem {L : List (List Tm)} {c : List Tm} (h : c ∈ L) : Spn q L c := (Same.refl (q := q) L).1 c h
theorem Spn.congr {L : List (List Tm)} {c : List Tm} {v : Int → Fin q} (h : InSp (vs q L) L.length v) (g : ∀ i, vc q c i = v i) : Spn q L c := InSp.congr h g
theorem Spn.pls {L : List (List Tm)} {a b : List Tm} {k : Int} (ha : Spn q L a) (hb : Spn q L b) (ca : Col q a) (cb : Col q b) : Spn q L (pls q a k b) :=
  InSp.congr (InSp.add ha (InSp.mul (io q k) hb)) (fun i => vc_pls ca cb i)
theorem Spn.append {L M : List (List Tm)} {c : List Tm} (h : Spn q L c) : Spn q (L ++ M) c := h.mono fun c hc => Spn.of_mem (by simp [hc])
/-- A list and some of its combinations more span the same. -/
theorem Same.more {L M : List (List Tm)} (h : ∀ c, c ∈ M → Spn q L c) : Same q (L ++ M) L :=
  ⟨fun c hc => (List.mem_append.1 hc).elim (fun g => Spn.of_mem g) (h c), fun c hc => Spn.of_mem (by simp [hc])⟩
theorem Same.more' {L M : List (List Tm)} (h : ∀ c, c ∈ M → Spn q L c) : Same q (M ++ L) L :=
  ⟨fun c hc => (List.mem_append.1 hc).elim (h c) (fun g => Spn.of_mem g), fun c hc => Spn.of_mem (by simp [hc])⟩
theorem getD_append_left {L M : List (List Tm)} {k : Nat} (h : k < L.length) : (L ++ M).getD k [] = L.getD k [] := by
  rw [List.getD_eq_getElem?_getD, List.getD_eq_getElem?_getD, List.getElem?_append_left h]
theorem getD_append_end {L : List (List Tm)} {c : List Tm} : (L ++ [c]).getD L.length [] = c := by
  rw [List.getD_eq_getElem?_getD, List.getElem?_append_right (Nat.le_refl _)]
  simp
/-- A column in no low row of the list joins it. -/
theorem Ind.snoc {p : Int} {L : List (List Tm)} {r : List Tm} (h : Ind p L) (hr : Col p r) (h0 : r ≠ []) (hz : ∀ k, k < L.length → co r (low (L.getD k [])) = 0) : Ind p (L ++ [r]) := by
  have hlow : ∀ k, k < L.length → low (L.getD k []) ≠ low r := by
    intro k hk e
    have h1 := hz k hk
    obtain ⟨-, -, -, h4, -, h6, -⟩ := low_props hr h0
    rw [e, h6] at h1
    omega
  refine ⟨fun c hc => ?_, fun k hk => ?_, fun j k hj hk e => ?_⟩
  · rcases List.mem_append.1 hc with g | g
    · exact h.cols c g
    · rw [List.mem_singleton.1 g]; exact hr
  · rw [List.length_append, List.length_singleton] at hk
    by_cases g : k < L.length
    · rw [getD_append_left g]; exact h.full k g
    · rw [show k = L.length by omega, getD_append_end]; exact h0
  · rw [List.length_append, List.length_singleton] at hj hk
    by_cases g1 : j < L.length
    · by_cases g2 : k < L.length
      · rw [getD_append_left g1, getD_append_left g2] at e
        exact h.inj j k g1 g2 e
      · rw [getD_append_left g1, show k = L.length by omega, getD_append_end] at e
        exact absurd e (hlow j g1)
    · by_cases g2 : k < L.length
      · rw [getD_append_left g2, show j = L.length by omega, getD_append_end] at e
        exact absurd e.symm (hlow k g2)
      · omega
/-- A column is in the span of the list and its rest. -/
theorem IsRest.same {L : List (List Tm)} {c r u : List Tm} (h : IsRest q L c r u) (hc : Col q c) : Same q (L ++ [r]) (L ++ [c]) := by
  have hu : InSp (vs q L) L.length (fun i => lc (vs q L) L.length (fun k => vc q u k) i) := ⟨_, fun _ => rfl⟩
  have hu1 : ∀ M : List (List Tm), (∀ c, c ∈ L → Spn q M c) → InSp (vs q M) M.length (fun i => lc (vs q L) L.length (fun k => vc q u k) i) := fun M g => InSp.trans hu fun k hk => g _ (getD_mem hk)
  refine ⟨fun d hd => ?_, fun d hd => ?_⟩
  · rcases List.mem_append.1 hd with g | g
    · exact Spn.of_mem (by simp [g])
    · rw [List.mem_singleton.1 g]
      refine Spn.congr (InSp.add (Spn.of_mem (q := q) (L := L ++ [c]) (c := c) (by simp)) (InSp.mul (-1) (hu1 (L ++ [c]) fun d hd => Spn.of_mem (by simp [hd])))) fun i => ?_
      have := h.sumv hc i
      grind
  · rcases List.mem_append.1 hd with g | g
    · exact Spn.of_mem (by simp [g])
    · rw [List.mem_singleton.1 g]
      refine Spn.congr (InSp.add (Spn.of_mem (q := q) (L := L ++ [r]) (c := r) (by simp)) (hu1 (L ++ [r]) fun d hd => Spn.of_mem (by simp [hd]))) fun i => ?_
      have := h.sumv hc i
      grind
theorem IsRest.self {p : Int} {L : List (List Tm)} {r : List Tm} (hp : 0 < p) (hr : Col p r) (hz : ∀ k, k < L.length → co r (low (L.getD k [])) = 0) : IsRest p L r r [] := by
  refine ⟨hr, trivial, fun _ _ => rfl, hz, fun i => ?_⟩
  have h0 : cmb L (fun k => co [] k) i = 0 := by
    unfold cmb
    generalize L.length = n
    induction n with
    | zero => rfl
    | succ n ih =>
      unfold smI
      rw [ih]
      show 0 + 0 * _ = (0 : Int)
      rw [Int.zero_mul]
      rfl
  obtain ⟨b1, b2⟩ := co_bd hp hr i
  rw [h0, Int.add_zero, md_of, Int.emod_eq_of_lt b1 b2]
/-- A number that is the length of an independent list with the same span. -/
def IsRank (q : Nat) [NeZero q] (L : List (List Tm)) (n : Nat) : Prop := ∃ E, Ind q E ∧ Same q E L ∧ E.length = n ∧ n ≤ L.length
theorem IsRank.of {L E : List (List Tm)} {n : Nat} (F : Fld q) (h : IsRank q L n) (hE : Ind q E) (hs : Same q E L) : n = E.length := by
  obtain ⟨D, h1, h2, h3, -⟩ := h
  rw [← h3]
  exact (h2.trans hs.symm).len F h1 hE
/-- The rank grows just if the rest is not empty. -/
theorem IsRank.rest {L : List (List Tm)} {c r u : List Tm} {n : Nat} (F : Fld q) (hL : Ind q L) (hc : Col q c) (h : IsRest q L c r u) (hn : IsRank q (L ++ [c]) n) : (r = [] ↔ n = L.length) := by
  by_cases g : r = []
  · have := (h.nil_iff hL F hc).1 g
    have hs : Same q (L ++ [c]) L := Same.more fun d hd => by rw [List.mem_singleton.1 hd]; exact this
    exact ⟨fun _ => hn.of F hL hs.symm, fun _ => g⟩
  · have := hn.of F (hL.snoc h.col g h.zero) (h.same hc)
    rw [List.length_append, List.length_singleton] at this
    exact ⟨fun e => absurd e g, fun e => by omega⟩
/-- The reduced list of the combinations that are 0. -/
structure IsKer (q : Nat) [NeZero q] (L Z : List (List Tm)) : Prop where
  red : Rd q Z
  row : ∀ z, z ∈ Z → ∀ i, (L.length : Int) ≤ i → co z i = 0
  zero : ∀ z, z ∈ Z → ∀ i, io q (cmb L (fun k => co z k) i) = 0
  all : ∀ x, Col q x → (∀ i, (L.length : Int) ≤ i → co x i = 0) → (∀ i, io q (cmb L (fun k => co x k) i) = 0) → Spn q Z x
  dim : ∃ n, IsRank q L n ∧ n + Z.length = L.length
end
end Go.Proofs.YtdhcffboaiajeaaDoor
