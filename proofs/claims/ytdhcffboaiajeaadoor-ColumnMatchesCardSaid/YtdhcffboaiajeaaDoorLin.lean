/-
  Sums and combinations over a field with q elements: echelon families, their spans, and the uniqueness of rests and of reduced families.
-/
import Derived.Test.YtdhcffboaiajeaaDoorCo
namespace Go.Proofs.YtdhcffboaiajeaaDoor

section
variable {q : Nat} [NeZero q]

/-- The sum of the first n values. -/
def sm (f : Nat → Fin q) : Nat → Fin q
  | 0 => 0
  | n + 1 => sm f n + f n
theorem sm_congr {f g : Nat → Fin q} : ∀ {n : Nat}, (∀ k, k < n → f k = g k) → sm f n = sm g n
  | 0, _ => rfl
  | n + 1, h => by
    unfold sm
    rw [sm_congr (n := n) (fun k hk => h k (by omega)), h n (by omega)]
theorem sm_zero {f : Nat → Fin q} : ∀ {n : Nat}, (∀ k, k < n → f k = 0) → sm f n = 0
  | 0, _ => rfl
  | n + 1, h => by
    unfold sm
    rw [sm_zero (n := n) (fun k hk => h k (by omega)), h n (by omega)]
    grind
theorem sm_add {f g : Nat → Fin q} : ∀ {n : Nat}, sm (fun k => f k + g k) n = sm f n + sm g n
  | 0 => by unfold sm; grind
  | n + 1 => by
    unfold sm
    rw [sm_add (n := n)]
    grind
theorem sm_mul {a : Fin q} {f : Nat → Fin q} : ∀ {n : Nat}, sm (fun k => a * f k) n = a * sm f n
  | 0 => by unfold sm; grind
  | n + 1 => by
    unfold sm
    rw [sm_mul (n := n)]
    grind
/-- All summands but one are 0. -/
theorem sm_one {f : Nat → Fin q} {k : Nat} : ∀ {n : Nat}, k < n → (∀ j, j < n → j ≠ k → f j = 0) → sm f n = f k
  | 0, h, _ => by omega
  | n + 1, h, g => by
    unfold sm
    by_cases e : k = n
    · rw [sm_zero (n := n) (fun j hj => g j (by omega) (by omega)), e]
      grind
    · rw [sm_one (n := n) (by omega) (fun j hj => g j (by omega)), g n (by omega) (by omega)]
      grind
theorem sm_more {f : Nat → Fin q} {n : Nat} : ∀ {m : Nat}, n ≤ m → (∀ k, n ≤ k → k < m → f k = 0) → sm f m = sm f n
  | 0, h, _ => by rw [show n = 0 by omega]
  | m + 1, h, g => by
    by_cases e : n = m + 1
    · rw [e]
    · show sm f m + f m = _
      rw [sm_more (m := m) (by omega) (fun k a b => g k a (by omega)), g m (by omega) (by omega)]
      have : ∀ x : Fin q, x + 0 = x := by intro x; grind
      exact this _
/-- The combination of the first n vectors of a family. -/
def lc (E : Nat → Int → Fin q) (n : Nat) (u : Nat → Fin q) (i : Int) : Fin q := sm (fun k => u k * E k i) n
/-- A vector of the span. -/
def InSp (E : Nat → Int → Fin q) (n : Nat) (v : Int → Fin q) : Prop := ∃ u, ∀ i, v i = lc E n u i
theorem InSp.zero {E : Nat → Int → Fin q} {n : Nat} {v : Int → Fin q} (h : ∀ i, v i = 0) : InSp E n v :=
  ⟨fun _ => 0, fun i => by rw [h, lc, sm_zero (fun k _ => by grind)]⟩
theorem InSp.add {E : Nat → Int → Fin q} {n : Nat} {v w : Int → Fin q} (h : InSp E n v) (g : InSp E n w) : InSp E n (fun i => v i + w i) := by
  obtain ⟨u, hu⟩ := h
  obtain ⟨t, ht⟩ := g
  refine ⟨fun k => u k + t k, fun i => ?_⟩
  show v i + w i = _
  rw [hu, ht]
  unfold lc
  rw [← sm_add]
  exact sm_congr fun k _ => by grind
theorem InSp.mul {E : Nat → Int → Fin q} {n : Nat} {v : Int → Fin q} (a : Fin q) (h : InSp E n v) : InSp E n (fun i => a * v i) := by
  obtain ⟨u, hu⟩ := h
  refine ⟨fun k => a * u k, fun i => ?_⟩
  show a * v i = _
  rw [hu]
  unfold lc
  rw [← sm_mul]
  exact sm_congr fun k _ => by grind
theorem InSp.congr {E : Nat → Int → Fin q} {n : Nat} {v w : Int → Fin q} (h : InSp E n v) (g : ∀ i, w i = v i) : InSp E n w := by
  obtain ⟨u, hu⟩ := h
  exact ⟨u, fun i => (g i).trans (hu i)⟩
theorem InSp.self {E : Nat → Int → Fin q} {n k : Nat} (h : k < n) : InSp E n (E k) := by
  refine ⟨fun j => if j = k then 1 else 0, fun i => ?_⟩
  unfold lc
  rw [sm_one h (fun j _ hj => by show (if j = k then (1 : Fin q) else 0) * E j i = 0; rw [if_neg hj]; grind)]
  show E k i = (if k = k then (1 : Fin q) else 0) * E k i
  rw [if_pos rfl]
  grind
theorem InSp.lc {E F : Nat → Int → Fin q} {n : Nat} {u : Nat → Fin q} : ∀ {m : Nat}, (∀ k, k < m → InSp E n (F k)) → InSp E n (fun i => lc F m u i)
  | 0, _ => InSp.zero (fun _ => rfl)
  | m + 1, h => by
    refine ((InSp.lc (u := u) (m := m) (fun k hk => h k (by omega))).add ((h m (by omega)).mul (u m))).congr fun i => ?_
    rfl
theorem InSp.trans {E F : Nat → Int → Fin q} {n m : Nat} {v : Int → Fin q} (h : InSp F m v) (g : ∀ k, k < m → InSp E n (F k)) : InSp E n v := by
  obtain ⟨u, hu⟩ := h
  exact (InSp.lc (u := u) g).congr hu
/-- The last rows lo of the first n vectors are different. -/
structure Ech (E : Nat → Int → Fin q) (lo : Nat → Int) (n : Nat) : Prop where
  at_ : ∀ k, k < n → E k (lo k) ≠ 0
  above : ∀ k, k < n → ∀ i, lo k < i → E k i = 0
  inj : ∀ j k, j < n → k < n → lo j = lo k → j = k
theorem greatest (lo : Nat → Int) (P : Nat → Prop) : ∀ (n : Nat), (∃ k, k < n ∧ P k) → ∃ k, k < n ∧ P k ∧ ∀ j, j < n → P j → lo j ≤ lo k
  | 0, ⟨k, h, _⟩ => absurd h (by omega)
  | n + 1, h => by
    by_cases g : ∃ k, k < n ∧ P k
    · obtain ⟨k, h1, h2, h3⟩ := greatest lo P n g
      by_cases hn : P n ∧ lo k < lo n
      · refine ⟨n, by omega, hn.1, fun j hj hp => ?_⟩
        by_cases e : j = n
        · rw [e]; exact Int.le_refl _
        · have := h3 j (by omega) hp; omega
      · refine ⟨k, by omega, h2, fun j hj hp => ?_⟩
        by_cases e : j = n
        · subst e
          rcases Int.lt_or_le (lo k) (lo j) with c | c
          · exact absurd ⟨hp, c⟩ hn
          · exact c
        · exact h3 j (by omega) hp
    · obtain ⟨k, h1, h2⟩ := h
      have e : k = n := by
        rcases Nat.lt_or_ge k n with c | c
        · exact absurd ⟨k, c, h2⟩ g
        · omega
      subst e
      refine ⟨k, by omega, h2, fun j hj hp => ?_⟩
      by_cases e : j = k
      · rw [e]; exact Int.le_refl _
      · exact absurd ⟨j, by omega, hp⟩ g
/-- The last row of a combination that is not 0 everywhere. -/
theorem Ech.top {E : Nat → Int → Fin q} {lo : Nat → Int} {n : Nat} (h : Ech E lo n) {u : Nat → Fin q} (hu : ∃ k, k < n ∧ u k ≠ 0) :
    ∃ k, k < n ∧ u k ≠ 0 ∧ lc E n u (lo k) = u k * E k (lo k) ∧ ∀ i, lo k < i → lc E n u i = 0 := by
  obtain ⟨k, h1, h2, h3⟩ := greatest lo (fun k => u k ≠ 0) n hu
  refine ⟨k, h1, h2, ?_, fun i hi => ?_⟩
  · unfold lc
    rw [sm_one h1]
    intro j hj hne
    by_cases g : u j = 0
    · rw [g]; grind
    · have h4 := h3 j hj g
      have h5 : lo j ≠ lo k := fun e => hne (h.inj j k hj h1 e)
      rw [h.above j hj (lo k) (by omega)]
      grind
  · unfold lc
    refine sm_zero fun j hj => ?_
    by_cases g : u j = 0
    · rw [g]; grind
    · have h4 := h3 j hj g
      rw [h.above j hj i (by omega)]
      grind
/-- Every element but 0 has an inverse. -/
def Fld (q : Nat) [NeZero q] : Prop := ∀ a : Fin q, a ≠ 0 → ∃ b, a * b = 1
theorem Fld.mul {a b : Fin q} (F : Fld q) (ha : a ≠ 0) (hb : b ≠ 0) : a * b ≠ 0 := by
  intro h
  obtain ⟨x, hx⟩ := F b hb
  exact ha (by grind)
theorem Ech.zero {E : Nat → Int → Fin q} {lo : Nat → Int} {n : Nat} (h : Ech E lo n) (F : Fld q) {u : Nat → Fin q} (hz : ∀ k, k < n → lc E n u (lo k) = 0) : ∀ k, k < n → u k = 0 := by
  intro k hk
  by_cases e : u k = 0
  · exact e
  · obtain ⟨j, h1, h2, h3, -⟩ := h.top ⟨k, hk, e⟩
    rw [hz j h1] at h3
    exact absurd h3.symm (F.mul h2 (h.at_ j h1))
/-- A vector of the span that is 0 in all last rows is 0. -/
theorem Ech.none {E : Nat → Int → Fin q} {lo : Nat → Int} {n : Nat} (h : Ech E lo n) (F : Fld q) {v : Int → Fin q} (hv : InSp E n v) (hz : ∀ k, k < n → v (lo k) = 0) : ∀ i, v i = 0 := by
  obtain ⟨u, hu⟩ := hv
  have := h.zero F (u := u) (fun k hk => (hu _).symm.trans (hz k hk))
  intro i
  rw [hu, lc]
  exact sm_zero fun k hk => by rw [this k hk]; grind
theorem Ech.lows {E : Nat → Int → Fin q} {lo : Nat → Int} {n : Nat} (h : Ech E lo n) (F : Fld q) {v : Int → Fin q} (hv : InSp E n v) {r : Int} (h1 : v r ≠ 0) (h2 : ∀ i, r < i → v i = 0) : ∃ k, k < n ∧ lo k = r := by
  obtain ⟨u, hu⟩ := hv
  by_cases g : ∃ k, k < n ∧ u k ≠ 0
  · obtain ⟨k, g1, g2, g3, g4⟩ := h.top g
    have g5 := F.mul g2 (h.at_ k g1)
    rw [← g3, ← hu] at g5
    refine ⟨k, g1, ?_⟩
    rcases Int.lt_trichotomy (lo k) r with c | c | c
    · exact absurd ((hu r).trans (g4 r c)) h1
    · exact c
    · exact absurd (h2 _ c) g5
  · exact absurd ((hu r).trans (sm_zero fun k hk => by
      have : u k = 0 := by
        by_cases e : u k = 0
        · exact e
        · exact absurd ⟨k, hk, e⟩ g
      rw [this]; grind)) h1
theorem nodup_le {l : List Int} : ∀ {m : List Int}, l.Nodup → (∀ x, x ∈ l → x ∈ m) → l.length ≤ m.length := by
  induction l with
  | nil => intro m _ _; exact Nat.zero_le _
  | cons a l ih =>
    intro m hn hs
    have ha := hs a (by simp)
    obtain ⟨h1, h2⟩ := List.nodup_cons.1 hn
    have := ih (m := m.erase a) h2 (fun x hx => (List.mem_erase_of_ne (fun e => h1 (by rw [← e]; exact hx))).2 (hs x (by simp [hx])))
    rw [List.length_erase_of_mem ha] at this
    have h3 : 0 < m.length := List.length_pos_of_mem ha
    simp only [List.length_cons]
    omega
theorem map_nodup {lo : Nat → Int} : ∀ {n : Nat}, (∀ j k, j < n → k < n → lo j = lo k → j = k) → ((List.range n).map lo).Nodup
  | 0, _ => by simp
  | n + 1, h => by
    rw [List.range_succ, List.map_append, List.nodup_append]
    refine ⟨map_nodup (fun j k hj hk => h j k (by omega) (by omega)), by simp, ?_⟩
    intro x hx y hy e
    simp only [List.mem_map, List.mem_range, List.map_cons, List.map_nil, List.mem_singleton] at hx hy
    obtain ⟨j, hj, rfl⟩ := hx
    have := h j n (by omega) (by omega) (e.trans hy)
    omega
/-- Of two families in echelon form the one in the span of the other has no more vectors. -/
theorem Ech.le {E F : Nat → Int → Fin q} {lo lp : Nat → Int} {n m : Nat} (h : Ech E lo n) (g : Ech F lp m) (K : Fld q) (hs : ∀ k, k < n → InSp F m (E k)) : n ≤ m := by
  have := nodup_le (l := (List.range n).map lo) (m := (List.range m).map lp) (map_nodup h.inj) (fun x hx => by
    simp only [List.mem_map, List.mem_range] at hx ⊢
    obtain ⟨k, hk, rfl⟩ := hx
    exact g.lows K (hs k hk) (h.at_ k hk) (h.above k hk))
  simpa using this
/-- Rests are unique. -/
theorem Ech.rest_unique {E : Nat → Int → Fin q} {lo : Nat → Int} {n : Nat} (h : Ech E lo n) (F : Fld q) {r s : Int → Fin q} {u t : Nat → Fin q} (e : ∀ i, r i + lc E n u i = s i + lc E n t i) (hr : ∀ k, k < n → r (lo k) = 0) (hs : ∀ k, k < n → s (lo k) = 0) : (∀ k, k < n → u k = t k) ∧ ∀ i, r i = s i := by
  have key : ∀ i, lc E n (fun k => u k - t k) i = s i - r i := by
    intro i
    have h1 : lc E n u i = lc E n (fun k => u k - t k) i + lc E n t i := by
      unfold lc
      rw [← sm_add]
      exact sm_congr fun k _ => by grind
    have h2 := e i
    grind
  have h0 := h.zero F (u := fun k => u k - t k) (fun k hk => by rw [key, hr k hk, hs k hk]; grind)
  have hu : ∀ k, k < n → u k = t k := fun k hk => by have := h0 k hk; grind
  refine ⟨hu, fun i => ?_⟩
  have h1 : lc E n u i = lc E n t i := sm_congr fun k hk => by rw [hu k hk]
  have := e i
  grind
/-- A reduced family. -/
structure Red (E : Nat → Int → Fin q) (lo : Nat → Int) (n : Nat) : Prop where
  one : ∀ k, k < n → E k (lo k) = 1
  above : ∀ k, k < n → ∀ i, lo k < i → E k i = 0
  up : ∀ j k, j < k → k < n → lo j < lo k
  other : ∀ j k, j < n → k < n → j ≠ k → E j (lo k) = 0
theorem Red.ech {E : Nat → Int → Fin q} {lo : Nat → Int} {n : Nat} (h : Red E lo n) (h1 : (1 : Fin q) ≠ 0) : Ech E lo n := by
  refine ⟨fun k hk => by rw [h.one k hk]; exact h1, h.above, fun j k hj hk e => ?_⟩
  rcases Nat.lt_trichotomy j k with c | c | c
  · have := h.up j k c hk; omega
  · exact c
  · have := h.up k j c hj; omega
theorem up_same {lo lp : Nat → Int} {n : Nat} (h : ∀ j k, j < k → k < n → lo j < lo k) (g : ∀ j k, j < k → k < n → lp j < lp k) (e1 : ∀ k, k < n → ∃ j, j < n ∧ lp j = lo k) (e2 : ∀ k, k < n → ∃ j, j < n ∧ lo j = lp k) : ∀ k, k < n → lo k = lp k := by
  intro k
  induction k using Nat.strongRecOn with
  | ind k ih =>
    intro hk
    obtain ⟨j, hj, ej⟩ := e1 k hk
    obtain ⟨i, hi, ei⟩ := e2 k hk
    rcases Nat.lt_trichotomy j k with c | c | c
    · have := ih j c hj
      have := h j k c hk
      omega
    · rw [← ej, c]
    · have hg := g k j c hj
      rcases Nat.lt_trichotomy i k with d | d | d
      · have := ih i d hi
        have := g i k d hk
        omega
      · rw [← ei, d]
      · have := h k i d hi
        omega
/-- The reduced family of a span is unique. -/
theorem Red.unique {E F : Nat → Int → Fin q} {lo lp : Nat → Int} {n m : Nat} (h : Red E lo n) (g : Red F lp m) (K : Fld q) (h1 : (1 : Fin q) ≠ 0) (hE : ∀ k, k < n → InSp F m (E k)) (hF : ∀ k, k < m → InSp E n (F k)) : n = m ∧ ∀ k, k < n → ∀ i, E k i = F k i := by
  have a := h.ech h1
  have b := g.ech h1
  obtain rfl : n = m := Nat.le_antisymm (a.le b K hE) (b.le a K hF)
  have el := up_same h.up g.up (fun k hk => b.lows K (hE k hk) (a.at_ k hk) (a.above k hk)) (fun k hk => a.lows K (hF k hk) (b.at_ k hk) (b.above k hk))
  refine ⟨rfl, fun k hk i => ?_⟩
  have hin : InSp E n (fun i => E k i + (-1) * F k i) := (InSp.self hk).add ((hF k hk).mul (-1))
  have := a.none K hin (fun j hj => by
    show E k (lo j) + (-1) * F k (lo j) = 0
    by_cases e : k = j
    · subst e
      rw [h.one k hk, el k hk, g.one k hk]
      grind
    · rw [h.other k j hk hj e, el j hj, g.other k j hk hj e]
      grind) i
  have h3 : E k i + (-1) * F k i = 0 := this
  grind
end
end Go.Proofs.YtdhcffboaiajeaaDoor
