/-
  Lists of integers in memory; fewer boxes.
-/
import Derived.Test.YtkhebidmfjbhaaaGreatDoorZ32
namespace Go.Proofs.YtkhebidmfjbhaaaGreatDoor
open Go.RowKit

/-- The slice v holds the integers l. -/
def NumL (W : World) (v : Value) (l : List Int) : Prop := ∃ a c, v = .slice a l.length c ∧ l.length ≤ c ∧ (0 < l.length → ∃ g o, a = some ⟨g, o, none⟩ ∧ g < W.heap.size ∧ ∀ i (h : i < l.length), ∃ p u b, W.cell? ⟨g, o + i * 3, none⟩ = some p ∧ W.cell? ⟨g, o + i * 3 + 1, none⟩ = some u ∧ W.cell? ⟨g, o + i * 3 + 2, none⟩ = some (.bool b) ∧ IntV W p u b (l[i]'h))
theorem NumL.below {W W' : World} {v : Value} {l : List Int} (h : NumL W v l) (hb : Below W.heap.size W W') : NumL W' v l := by
  obtain ⟨a, c, hv, hc, hr⟩ := h
  refine ⟨a, c, hv, hc, fun h0 => ?_⟩
  obtain ⟨g, o, ha, hg, hcl⟩ := hr h0
  refine ⟨g, o, ha, Nat.lt_of_lt_of_le hg hb.size, fun i hi => ?_⟩
  obtain ⟨p, u, b, c0, c1, c2, hI⟩ := hcl i hi
  exact ⟨p, u, b, (below_at hb _ hg).trans c0, (below_at hb _ hg).trans c1, (below_at hb _ hg).trans c2, hI.below hb⟩
theorem St.sub {w W : World} {R R' : List (Nat × Value × Value × Bool × Value × Value × Bool)} {Z Z' : List (Nat × Value × Value × Bool)} {N N' : List (Value × Value × Bool × Int)} (h : St w W R Z N) (hR : R'.Sublist R) (hZ : Z'.Sublist Z) (hN : ∀ e, e ∈ N' → e ∈ N) : St w W R' Z' N' :=
  ⟨h.below, fun e he => h.rats e (hR.subset he), fun e he => h.nums e (hZ.subset he), fun e he => h.nats e (hN e he), fun e he => h.own e (hZ.subset he), h.dist.sublist hZ, fun e he d hd => h.apart e (hR.subset he) d (hZ.subset hd), h.distR.sublist hR, fun e he => h.ownR e (hR.subset he)⟩
/-- Convergents until a denominator is too long. -/
def cbr : Int × Int × Int × Int → List Int → Int × Int × Int × Int
  | s, [] => s
  | s, c :: l => if 1000 < dn (cstep s c).2.1 then cstep s c else cbr (cstep s c) l
theorem cbr_cvs : ∀ (l : List Int) (s : Int × Int × Int × Int), Cv s → (∀ c, c ∈ l → 1 ≤ c) → dn (cvs s l).2.1 ≤ 1000 → cbr s l = cvs s l
  | [], _, _, _, _ => rfl
  | c :: l, s, h, hp, hd => by
    have hc := hp c List.mem_cons_self
    have h1 : s.2.1 ≤ c * s.2.1 := by
      have := Int.mul_le_mul_of_nonneg_right hc h.pos.1
      omega
    have h2 := h.pos
    have hs := h.step (c := c) (by omega)
    have hm := (cvs_mono l (cstep s c) hs (fun x hx => hp x (List.mem_cons_of_mem _ hx))).2
    have h3 : dn (cstep s c).2.1 ≤ 1000 := Nat.le_trans (dn_mono hs.pos.1 hm) hd
    unfold cbr
    rw [if_neg (by omega)]
    exact cbr_cvs l (cstep s c) hs (fun x hx => hp x (List.mem_cons_of_mem _ hx)) hd
/-- How large numerators get. -/
structure Cn (c0 : Int) (s : Int × Int × Int × Int) : Prop where
  x0 : 0 ≤ s.1 - c0 * s.2.1
  x1 : s.1 - c0 * s.2.1 ≤ s.2.1
  b0 : 0 ≤ s.2.2.1 - c0 * s.2.2.2
  b1 : s.2.2.1 - c0 * s.2.2.2 ≤ s.2.2.2 ∨ s.1 - c0 * s.2.1 = 0 ∧ s.2.2.1 - c0 * s.2.2.2 = 1 ∧ s.2.1 = 1 ∧ s.2.2.2 = 0
theorem Cn.start (c : Int) : Cn c (cstep (1, 0, 0, 1) c) := by
  refine ⟨?_, ?_, ?_, .inr ⟨?_, ?_, ?_, ?_⟩⟩ <;> simp [cstep]
theorem Cn.step {c0 c : Int} {s : Int × Int × Int × Int} (h : Cn c0 s) (hc : 1 ≤ c) (hx : 0 ≤ s.2.1) (hb : 0 ≤ s.2.2.2) : Cn c0 (cstep s c) := by
  obtain ⟨xn, xd, bn, bd⟩ := s
  obtain ⟨x0, x1, b0, b1⟩ := h
  simp only [cstep] at *
  have e : c * xn + bn - c0 * (c * xd + bd) = c * (xn - c0 * xd) + (bn - c0 * bd) := by grind
  have p1 : 0 ≤ c * (xn - c0 * xd) := Int.mul_nonneg (by omega) x0
  have p2 : c * (xn - c0 * xd) ≤ c * xd := Int.mul_le_mul_of_nonneg_left x1 (by omega)
  refine ⟨by simp only; rw [e]; omega, ?_, x0, .inl x1⟩
  simp only
  rw [e]
  rcases b1 with b1 | ⟨h1, h2, h3, h4⟩
  · omega
  · rw [h1, h2, h3, h4]; omega
theorem Cn.abs {c0 : Int} {s : Int × Int × Int × Int} (h : Cn c0 s) (hx : 0 ≤ s.2.1) : (s.1.natAbs : Int) ≤ (c0.natAbs + 1) * s.2.1 := by
  obtain ⟨x0, x1, -, -⟩ := h
  have e : ((c0.natAbs : Int) + 1) * s.2.1 = c0.natAbs * s.2.1 + s.2.1 := by grind
  have e2 : ((c0 * s.2.1).natAbs : Int) = c0.natAbs * s.2.1 := by rw [Int.natAbs_mul, Int.natCast_mul, Int.natAbs_of_nonneg hx]
  omega
theorem Cn.absb {c0 : Int} {s : Int × Int × Int × Int} (h : Cn c0 s) (hx : 0 ≤ s.2.2.2) : (s.2.2.1.natAbs : Int) ≤ (c0.natAbs + 1) * s.2.2.2 + 1 := by
  obtain ⟨-, -, b0, b1⟩ := h
  have e : ((c0.natAbs : Int) + 1) * s.2.2.2 = c0.natAbs * s.2.2.2 + s.2.2.2 := by grind
  have e2 : ((c0 * s.2.2.2).natAbs : Int) = c0.natAbs * s.2.2.2 := by rw [Int.natAbs_mul, Int.natCast_mul, Int.natAbs_of_nonneg hx]
  rcases b1 with b1 | ⟨h1, h2, h3, h4⟩
  · omega
  · have h5 : s.2.2.1 = 1 := by rw [h4, Int.mul_zero] at h2; omega
    rw [h5, h4, Int.mul_zero]; decide
/-- The state before the i-th term. -/
structure Cs (l : List Int) (i : Nat) (s : Int × Int × Int × Int) : Prop where
  cbr : cbr (1, 0, 0, 1) l = cbr s (l.drop i)
  cv : Cv s
  one : i = 0 ∧ s = (1, 0, 0, 1) ∨ 1 ≤ i ∧ ∃ c0 : Int, dn c0 ≤ 1000 ∧ Cn c0 s
  den : dn s.2.1 ≤ 1000
  bef : dn s.2.2.2 ≤ 1000
theorem Cs.start (l : List Int) : Cs l 0 (1, 0, 0, 1) := ⟨rfl, Cv.start, .inl ⟨rfl, rfl⟩, by show dn 0 ≤ 1000; rw [dn_zero]; omega, by show dn 1 ≤ 1000; rw [dn_one]; omega⟩
theorem tail_pos {l : List Int} {i : Nat} (hp : ∀ c, c ∈ l.tail → 1 ≤ c) (hi : i < l.length) (h1 : 1 ≤ i) : 1 ≤ l[i]'hi := by
  refine hp _ ?_
  cases l with
  | nil => cases hi
  | cons a l =>
    cases i with
    | zero => omega
    | succ i => exact List.getElem_mem _
theorem Cs.next {l : List Int} {i : Nat} {s : Int × Int × Int × Int} (h : Cs l i s) (hi : i < l.length) (hp : ∀ c, c ∈ l.tail → 1 ≤ c) (hd : ∀ c, c ∈ l → dn c ≤ 1000) : Cv (cstep s (l[i]'hi)) ∧ (∃ c0 : Int, dn c0 ≤ 1000 ∧ Cn c0 (cstep s (l[i]'hi))) ∧ (dn (cstep s (l[i]'hi)).2.1 ≤ 1000 → Cs l (i + 1) (cstep s (l[i]'hi))) ∧ (1000 < dn (cstep s (l[i]'hi)).2.1 → Go.Proofs.YtkhebidmfjbhaaaGreatDoor.cbr (1, 0, 0, 1) l = cstep s (l[i]'hi)) := by
  have hdr : l.drop i = l[i]'hi :: l.drop (i + 1) := List.drop_eq_getElem_cons hi
  have hde := hd _ (List.getElem_mem hi)
  have hpo := tail_pos hp hi
  have hcb := h.cbr
  rw [hdr] at hcb
  generalize l[i]'hi = c at *
  have key : Cv (cstep s c) ∧ ∃ c0 : Int, dn c0 ≤ 1000 ∧ Cn c0 (cstep s c) := by
    rcases h.one with ⟨rfl, rfl⟩ | ⟨h1, c0, h2, h3⟩
    · exact ⟨h.cv.step (by simp), c, hde, Cn.start c⟩
    · have hc := hpo h1
      have hb := h.cv.pos
      have := Int.mul_nonneg (show 0 ≤ c by omega) hb.1
      exact ⟨h.cv.step (by omega), c0, h2, h3.step hc hb.1 hb.2⟩
  obtain ⟨k1, c0, k2, k3⟩ := key
  refine ⟨k1, ⟨c0, k2, k3⟩, fun h5 => ⟨?_, k1, .inr ⟨by omega, c0, k2, k3⟩, h5, h.den⟩, fun h5 => ?_⟩
  · rw [hcb]
    conv => lhs; unfold Go.Proofs.YtkhebidmfjbhaaaGreatDoor.cbr
    rw [if_neg (by omega)]
  · rw [hcb]
    conv => lhs; unfold Go.Proofs.YtkhebidmfjbhaaaGreatDoor.cbr
    rw [if_pos h5]
/-- The numbers of a state are not long. -/
theorem Cs.small {l : List Int} {i : Nat} {s : Int × Int × Int × Int} (h : Cs l i s) : dn s.1 ≤ 3000 ∧ dn s.2.1 ≤ 1000 ∧ dn s.2.2.1 ≤ 3000 ∧ dn s.2.2.2 ≤ 1000 := by
  refine ⟨?_, h.den, ?_, h.bef⟩
  · rcases h.one with ⟨-, rfl⟩ | ⟨-, c0, h2, h3⟩
    · show dn 1 ≤ 3000; rw [dn_one]; omega
    · have hb := h.cv.pos
      have h4 := h3.abs hb.1
      have h5 : dn (((c0.natAbs : Int) + 1) * s.2.1) ≤ 1001 + 1000 := dn_times (dn_plus (k := 1000) (by rw [dn_abs]; exact h2) (by rw [dn_one]; omega)) h.den (by omega)
      have h6 := dn_mono (x := (s.1.natAbs : Int)) (by omega) h4
      rw [dn_abs] at h6
      omega
  · rcases h.one with ⟨-, rfl⟩ | ⟨-, c0, h2, h3⟩
    · show dn 0 ≤ 3000; rw [dn_zero]; omega
    · have hb := h.cv.pos
      have h4 := h3.absb hb.2
      have h5 : dn (((c0.natAbs : Int) + 1) * s.2.2.2) ≤ 1001 + 1000 := dn_times (dn_plus (k := 1000) (by rw [dn_abs]; exact h2) (by rw [dn_one]; omega)) h.bef (by omega)
      have h7 : dn (((c0.natAbs : Int) + 1) * s.2.2.2 + 1) ≤ 2001 + 1 := dn_plus (by omega) (by rw [dn_one]; omega)
      have h6 := dn_mono (x := (s.2.2.1.natAbs : Int)) (by omega) h4
      rw [dn_abs] at h6
      omega
end Go.Proofs.YtkhebidmfjbhaaaGreatDoor
