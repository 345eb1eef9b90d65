/-
  Expansions and the simplest number between two: rational numbers and integers alone.
  The expansion of a rational number.
  Lists of integers in memory; fewer boxes.
-/
import Derived.Test.YtkhebidmfjbhaaaGreatDoorZ03
import Derived.Test.YtkhebidmfjbhaaaGreatDoorZ13
import Derived.Test.YtkhebidmfjbhaaaGreatDoorZ31
namespace Go.Proofs.YtkhebidmfjbhaaaGreatDoor

theorem inv_pos' {v : Rat} (h : 0 < v) : 0 < v⁻¹ := Rat.inv_pos.2 h
/-- The value of an expansion. -/
def cfv : List Int → Rat
  | [] => 0
  | c :: l => (c : Rat) + (cfv l)⁻¹
theorem cfv_one (c : Int) : cfv [c] = c := by
  unfold cfv cfv
  rw [Rat.inv_zero, Rat.add_zero]
theorem int_le_rat {a b : Int} (h : a ≤ b) : (a : Rat) ≤ b := Rat.intCast_le_intCast.2 h
theorem cfv_pos : ∀ {l : List Int}, l ≠ [] → (∀ c, c ∈ l → 1 ≤ c) → 1 ≤ cfv l
  | [], h, _ => absurd rfl h
  | c :: l, _, hp => by
    have h1 : (1 : Rat) ≤ c := by
      have := int_le_rat (hp c List.mem_cons_self)
      simpa using this
    unfold cfv
    have h2 : 0 ≤ (cfv l)⁻¹ := by
      cases l with
      | nil => unfold cfv; rw [Rat.inv_zero]; exact Rat.le_refl
      | cons d l =>
        have h3 := cfv_pos (l := d :: l) (by simp) (fun c hc => hp c (List.mem_cons_of_mem _ hc))
        exact Rat.le_of_lt (inv_pos' (by grind))
    grind
/-- A step of the convergents. -/
def cstep (s : Int × Int × Int × Int) (c : Int) : Int × Int × Int × Int := (c * s.1 + s.2.2.1, c * s.2.1 + s.2.2.2, s.1, s.2.1)
def cvs (s : Int × Int × Int × Int) (l : List Int) : Int × Int × Int × Int := l.foldl cstep s
theorem cvs_val : ∀ (l : List Int) (s : Int × Int × Int × Int), l ≠ [] → (∀ c, c ∈ l.tail → 1 ≤ c) →
    ((cvs s l).1 : Rat) * (cfv l * s.2.1 + s.2.2.2) = ((cvs s l).2.1 : Rat) * (cfv l * s.1 + s.2.2.1)
  | [], _, h, _ => absurd rfl h
  | [c], s, _, _ => by
    obtain ⟨xn, xd, bn, bd⟩ := s
    rw [cfv_one]
    show ((c * xn + bn : Int) : Rat) * _ = ((c * xd + bd : Int) : Rat) * _
    simp only [Rat.intCast_add, Rat.intCast_mul]
    grind
  | c :: d :: l, s, _, hp => by
    have hv := cfv_pos (l := d :: l) (by simp) hp
    have ih := cvs_val (d :: l) (cstep s c) (by simp) (fun x hx => hp x (List.mem_cons_of_mem _ hx))
    obtain ⟨xn, xd, bn, bd⟩ := s
    have e : cvs (xn, xd, bn, bd) (c :: d :: l) = cvs (cstep (xn, xd, bn, bd) c) (d :: l) := rfl
    rw [e, show cfv (c :: d :: l) = (c : Rat) + (cfv (d :: l))⁻¹ from rfl]
    generalize cfv (d :: l) = v at *
    generalize cvs (cstep (xn, xd, bn, bd) c) (d :: l) = t at *
    simp only [cstep, Rat.intCast_add, Rat.intCast_mul] at ih ⊢
    have h0 : v ≠ 0 := by intro h; rw [h] at hv; exact absurd hv (by decide)
    generalize (t.fst : Rat) = X at *
    generalize (t.snd.fst : Rat) = Y at *
    generalize (c : Rat) = c' at *
    generalize (xn : Rat) = a1 at *
    generalize (xd : Rat) = a2 at *
    generalize (bn : Rat) = a3 at *
    generalize (bd : Rat) = a4 at *
    clear e hp hv
    grind
/-- What the convergents keep. -/
structure Cv (s : Int × Int × Int × Int) : Prop where
  det : s.1 * s.2.2.2 - s.2.2.1 * s.2.1 = 1 ∨ s.1 * s.2.2.2 - s.2.2.1 * s.2.1 = -1
  pos : 0 ≤ s.2.1 ∧ 0 ≤ s.2.2.2
theorem Cv.start : Cv (1, 0, 0, 1) := ⟨.inl rfl, by decide, by decide⟩
theorem cstep_det (s : Int × Int × Int × Int) (c : Int) : (cstep s c).1 * (cstep s c).2.2.2 - (cstep s c).2.2.1 * (cstep s c).2.1 = -(s.1 * s.2.2.2 - s.2.2.1 * s.2.1) := by
  obtain ⟨xn, xd, bn, bd⟩ := s
  simp only [cstep]
  grind
theorem Cv.step {s : Int × Int × Int × Int} (h : Cv s) {c : Int} (hc : 0 ≤ c * s.2.1 + s.2.2.2) : Cv (cstep s c) := by
  refine ⟨?_, hc, h.pos.1⟩
  rw [cstep_det]
  rcases h.det with e | e <;> rw [e]
  · exact .inr rfl
  · exact .inl (by decide)
theorem Cv.gcd {s : Int × Int × Int × Int} (h : Cv s) : Int.gcd s.1 s.2.1 = 1 := by
  obtain ⟨xn, xd, bn, bd⟩ := s
  have h1 := Int.gcd_dvd_left xn xd
  have h2 := Int.gcd_dvd_right xn xd
  have h3 : (Int.gcd xn xd : Int) ∣ xn * bd - bn * xd := Int.dvd_sub (Int.dvd_mul_of_dvd_left h1) (Int.dvd_mul_of_dvd_right h2)
  have hd := h.det
  simp only at hd h3
  have h4 : (Int.gcd xn xd : Int) ∣ 1 := by
    rcases hd with e | e <;> rw [e] at h3
    · exact h3
    · exact Int.dvd_neg.1 h3
  have h5 := Int.le_of_dvd (by decide) h4
  have h6 : Int.gcd xn xd ≠ 0 := by
    intro e
    rw [e] at h4
    have := Int.zero_dvd.1 h4
    omega
  show Int.gcd xn xd = 1
  omega
/-- The denominators do not decrease. -/
theorem cvs_mono : ∀ (l : List Int) (s : Int × Int × Int × Int), Cv s → (∀ c, c ∈ l → 1 ≤ c) → Cv (cvs s l) ∧ s.2.1 ≤ (cvs s l).2.1
  | [], s, h, _ => ⟨h, Int.le_refl _⟩
  | c :: l, s, h, hp => by
    have hc := hp c List.mem_cons_self
    have h1 : s.2.1 ≤ c * s.2.1 := by
      have := Int.mul_le_mul_of_nonneg_right hc h.pos.1
      omega
    have h2 := h.pos
    obtain ⟨h3, h4⟩ := cvs_mono l (cstep s c) (h.step (by omega)) (fun x hx => hp x (List.mem_cons_of_mem _ hx))
    refine ⟨h3, Int.le_trans ?_ h4⟩
    show s.2.1 ≤ c * s.2.1 + s.2.2.2
    omega
theorem cvs_start {c : Int} {l : List Int} (hp : ∀ c, c ∈ l → 1 ≤ c) : Cv (cvs (1, 0, 0, 1) (c :: l)) ∧ 1 ≤ (cvs (1, 0, 0, 1) (c :: l)).2.1 := by
  have h := cvs_mono l (cstep (1, 0, 0, 1) c) (Cv.start.step (by simp)) hp
  refine ⟨h.1, ?_⟩
  have h2 := h.2
  simp only [cstep] at h2
  show 1 ≤ (cvs (cstep (1, 0, 0, 1) c) l).2.1
  simp only [cstep]
  omega
theorem rat_of {n d : Int} {v : Rat} (hd : 0 < d) (hg : Int.gcd n d = 1) (h : (n : Rat) = d * v) : v.num = n ∧ (v.den : Int) = d := by
  have hd0 : (d : Rat) ≠ 0 := by
    intro e
    have := Rat.intCast_inj.1 (e.trans (show (0 : Rat) = ((0 : Int) : Rat) by simp))
    omega
  have e1 : v = Rat.divInt n d := by
    rw [Rat.divInt_eq_div]
    grind
  rw [e1, Rat.num_divInt, Rat.den_divInt, if_neg (by omega), Int.gcd_comm, hg, Int.sign_eq_one_of_pos hd]
  refine ⟨by simp, ?_⟩
  rw [Nat.div_one]
  omega
theorem cfv_cvs {c : Int} {l : List Int} (hp : ∀ c, c ∈ l → 1 ≤ c) : (cfv (c :: l)).num = (cvs (1, 0, 0, 1) (c :: l)).1 ∧ ((cfv (c :: l)).den : Int) = (cvs (1, 0, 0, 1) (c :: l)).2.1 := by
  obtain ⟨h1, h2⟩ := cvs_start (c := c) hp
  refine rat_of (by omega) h1.gcd ?_
  have h3 := cvs_val (c :: l) (1, 0, 0, 1) (by simp) hp
  simp only at h3
  have e0 : (((0 : Int) : Rat)) = 0 := by simp
  have e1 : (((1 : Int) : Rat)) = 1 := by simp
  rw [e0, e1] at h3
  grind
/-- The steps of simplest: the terms for the interval from n/d to m/k. -/
def sterms : Nat → Int → Int → Int → Int → List Int
  | 0, _, _, _, _ => []
  | f + 1, n, d, m, k =>
    if m < (if n.fmod d = 0 then n.fdiv d else n.fdiv d + 1) * k then n.fdiv d :: sterms f k (m - n.fdiv d * k) d (n.fmod d)
    else [if n.fmod d = 0 then n.fdiv d else n.fdiv d + 1]
/-- The interval from n/d to m/k, of positive numbers, is not empty; m/k may be inf. -/
structure Iv (n d m k : Int) : Prop where
  n0 : 0 < n
  d0 : 0 < d
  m0 : 0 < m
  k0 : 0 ≤ k
  le : n * k ≤ m * d
theorem fdm {n d : Int} (hd : 0 < d) : n = d * n.fdiv d + n.fmod d ∧ 0 ≤ n.fmod d ∧ n.fmod d < d := by
  have h := Int.mul_fdiv_add_fmod n d
  exact ⟨by omega, Int.fmod_nonneg_of_pos n hd, Int.fmod_lt_of_pos n hd⟩
theorem fdiv_pos0 {n d : Int} (hn : 0 ≤ n) (hd : 0 < d) : 0 ≤ n.fdiv d := Int.fdiv_nonneg hn (Int.le_of_lt hd)
/-- What a round that is not the last one knows. -/
structure Rd (n d m k q r : Int) : Prop where
  hn : n = d * q + r
  r0 : 0 < r
  rd : r < d
  q0 : 0 ≤ q
  k0 : 0 < k
  s0 : 0 < m - q * k
  sk : m - q * k < k
  iv : Iv k (m - q * k) d r
theorem Iv.round {n d m k : Int} (h : Iv n d m k) (h1 : m < (if n.fmod d = 0 then n.fdiv d else n.fdiv d + 1) * k) : Rd n d m k (n.fdiv d) (n.fmod d) := by
  obtain ⟨e, r0, rd⟩ := fdm (n := n) h.d0
  have q0 := fdiv_pos0 (Int.le_of_lt h.n0) h.d0
  have hm := h.m0
  have hle := h.le
  have hd := h.d0
  generalize n.fdiv d = q at *
  generalize n.fmod d = r at *
  have hk : 0 < k := by
    rcases Int.lt_or_eq_of_le h.k0 with a | a
    · exact a
    · rw [← a, Int.mul_zero] at h1; omega
  have hr : r ≠ 0 := by
    intro a
    subst a
    rw [if_pos rfl] at h1
    have h2 := Int.mul_lt_mul_of_pos_right h1 hd
    have h3 : q * k * d = n * k := by rw [e]; grind
    omega
  rw [if_neg hr] at h1
  have hr0 : 0 < r := by omega
  have e2 : (q + 1) * k = q * k + k := by grind
  have hs : 0 < m - q * k := by
    refine Int.pos_of_mul_pos_left (b := d) ?_ hd
    have h5 : (m - q * k) * d = m * d - n * k + r * k := by rw [e]; grind
    have h6 := Int.mul_pos hr0 hk
    omega
  refine ⟨e, hr0, rd, q0, hk, hs, by omega, ⟨hk, hs, hd, r0, ?_⟩⟩
  have h7 : d * (m - q * k) - k * r = m * d - n * k := by rw [e]; grind
  omega
/-- The result of simplest. -/
def sres : Nat → Int → Int → Int → Int → Int × Int
  | 0, _, _, _, _ => (0, 1)
  | f + 1, n, d, m, k =>
    if m < (if n.fmod d = 0 then n.fdiv d else n.fdiv d + 1) * k then
      (n.fdiv d * (sres f k (m - n.fdiv d * k) d (n.fmod d)).1 + (sres f k (m - n.fdiv d * k) d (n.fmod d)).2, (sres f k (m - n.fdiv d * k) d (n.fmod d)).1)
    else (if n.fmod d = 0 then n.fdiv d else n.fdiv d + 1, 1)
/-- N/D lies in the interval, and is the least of all there, above and below. -/
structure Si (n d m k N D : Int) : Prop where
  N0 : 0 < N
  D0 : 0 < D
  lo : n * D ≤ N * d
  hi : N * k ≤ m * D
  least : ∀ p q : Int, 0 < q → n * q ≤ p * d → p * k ≤ m * q → D ≤ q ∧ N ≤ p
  cop : ∃ u v : Int, N * u + D * v = 1
theorem sres_si : ∀ (f : Nat) (n d m k : Int), Iv n d m k → (d + k).toNat < f → Si n d m k (sres f n d m k).1 (sres f n d m k).2
  | 0, _, _, _, _, _, hf => absurd hf (by omega)
  | f + 1, n, d, m, k, h, hf => by
    by_cases h1 : m < (if n.fmod d = 0 then n.fdiv d else n.fdiv d + 1) * k
    · have R := h.round h1
      have e : sres (f + 1) n d m k = (n.fdiv d * (sres f k (m - n.fdiv d * k) d (n.fmod d)).1 + (sres f k (m - n.fdiv d * k) d (n.fmod d)).2, (sres f k (m - n.fdiv d * k) d (n.fmod d)).1) := by
        conv => lhs; unfold sres
        rw [if_pos h1]
      have ih := sres_si f k (m - n.fdiv d * k) d (n.fmod d) R.iv (by have := R.rd; have := R.sk; have := R.r0; have := R.s0; omega)
      rw [e]
      obtain ⟨hn, r0, rd, q0, k0, s0, sk, iv⟩ := R
      generalize n.fdiv d = q at *
      generalize n.fmod d = r at *
      generalize (sres f k (m - q * k) d r).1 = N at *
      generalize (sres f k (m - q * k) d r).2 = D at *
      obtain ⟨N0, D0, lo, hi, least, u, v, cop⟩ := ih
      clear e h1 hf
      refine ⟨?_, N0, ?_, ?_, ?_, v, u - q * v, by show (q * N + D) * v + N * (u - q * v) = 1; grind⟩
      · show 0 < q * N + D
        have := Int.mul_nonneg q0 (Int.le_of_lt N0)
        omega
      · show n * N ≤ (q * N + D) * d
        rw [hn]
        grind
      · show (q * N + D) * k ≤ m * N
        grind
      · intro p y y0 a1 a2
        show N ≤ y ∧ q * N + D ≤ p
        have b1 : 0 < p - q * y := by
          refine Int.pos_of_mul_pos_left (b := d) ?_ h.d0
          have c1 : (p - q * y) * d = p * d - n * y + r * y := by rw [hn]; grind
          have c2 := Int.mul_pos r0 y0
          omega
        obtain ⟨c1, c2⟩ := least y (p - q * y) b1 (by grind) (by rw [hn] at a1; grind)
        refine ⟨c2, ?_⟩
        have c3 := Int.mul_le_mul_of_nonneg_left c2 q0
        omega
    · have e : sres (f + 1) n d m k = (if n.fmod d = 0 then n.fdiv d else n.fdiv d + 1, 1) := by
        conv => lhs; unfold sres
        rw [if_neg h1]
      rw [e]
      obtain ⟨e, r0, rd⟩ := fdm (n := n) h.d0
      have q0 := fdiv_pos0 (Int.le_of_lt h.n0) h.d0
      have hn := h.n0
      have hd := h.d0
      generalize n.fdiv d = q at *
      generalize n.fmod d = r at *
      obtain ⟨t, ht⟩ : ∃ t, t = if r = 0 then q else q + 1 := ⟨_, rfl⟩
      rw [← ht] at h1 ⊢
      have t1 : n ≤ t * d := by
        by_cases hr : r = 0
        · rw [if_pos hr] at ht; rw [ht]; grind
        · rw [if_neg hr] at ht; rw [ht]; grind
      have t2 : ∀ p y : Int, 0 < y → n * y ≤ p * d → t ≤ p := by
        intro p y y0 a1
        rcases Int.lt_or_le p t with c | c
        · exfalso
          have c0 : n ≤ p * d := by
            rcases Int.lt_or_le p 0 with z | z
            · have z1 := Int.mul_neg_of_neg_of_pos z hd
              have z2 := Int.mul_pos hn y0
              omega
            · have z2 : n * 1 ≤ n * y := Int.mul_le_mul_of_nonneg_left (by omega) (by omega)
              omega
          by_cases hr : r = 0
          · rw [if_pos hr] at ht
            have z3 : (p + 1) * d ≤ t * d := Int.mul_le_mul_of_nonneg_right (by omega) (by omega)
            have z4 : t * d = n := by rw [ht, e, hr]; grind
            have z5 : (p + 1) * d = p * d + d := by grind
            omega
          · rw [if_neg hr] at ht
            have z3 : p * d ≤ q * d := Int.mul_le_mul_of_nonneg_right (by omega) (by omega)
            have z4 : d * q = q * d := Int.mul_comm _ _
            omega
        · exact c
      have tp : 0 < t := by
        rcases Int.lt_or_le 0 t with c | c
        · exact c
        · have := Int.mul_nonneg (show 0 ≤ -t by omega) (Int.le_of_lt hd)
          rw [Int.neg_mul] at this
          omega
      refine ⟨tp, by show (0 : Int) < 1; decide, by show n * 1 ≤ t * d; omega, by show t * k ≤ m * 1; omega, ?_, 0, 1, by show t * 0 + 1 * 1 = 1; omega⟩
      intro p y y0 a1 a2
      exact ⟨by show 1 ≤ y; omega, t2 p y y0 a1⟩

theorem Si.gcd {n d m k N D : Int} (h : Si n d m k N D) : Int.gcd N D = 1 := by
  obtain ⟨u, v, e⟩ := h.cop
  have h3 : (Int.gcd N D : Int) ∣ N * u + D * v := Int.dvd_add (Int.dvd_mul_of_dvd_left (Int.gcd_dvd_left N D)) (Int.dvd_mul_of_dvd_left (Int.gcd_dvd_right N D))
  rw [e] at h3
  have h5 := Int.le_of_dvd (by decide) h3
  have h6 : Int.gcd N D ≠ 0 := by
    intro e
    rw [e] at h3
    have := Int.zero_dvd.1 h3
    omega
  omega
/-- The terms and the result. -/
theorem sterms_val : ∀ (f : Nat) (n d m k : Int), Iv n d m k → (d + k).toNat < f →
    sterms f n d m k ≠ [] ∧ (∀ c, c ∈ (sterms f n d m k).tail → 1 ≤ c) ∧ (d ≤ n → ∀ c, c ∈ sterms f n d m k → 1 ≤ c) ∧ cfv (sterms f n d m k) * ((sres f n d m k).2 : Rat) = ((sres f n d m k).1 : Rat)
  | 0, _, _, _, _, _, hf => absurd hf (by omega)
  | f + 1, n, d, m, k, h, hf => by
    by_cases h1 : m < (if n.fmod d = 0 then n.fdiv d else n.fdiv d + 1) * k
    · have R := h.round h1
      have e : sres (f + 1) n d m k = (n.fdiv d * (sres f k (m - n.fdiv d * k) d (n.fmod d)).1 + (sres f k (m - n.fdiv d * k) d (n.fmod d)).2, (sres f k (m - n.fdiv d * k) d (n.fmod d)).1) := by
        conv => lhs; unfold sres
        rw [if_pos h1]
      have e' : sterms (f + 1) n d m k = n.fdiv d :: sterms f k (m - n.fdiv d * k) d (n.fmod d) := by
        conv => lhs; unfold sterms
        rw [if_pos h1]
      have hf' : ((m - n.fdiv d * k) + n.fmod d).toNat < f := by have := R.rd; have := R.sk; have := R.r0; have := R.s0; omega
      have si := sres_si f k (m - n.fdiv d * k) d (n.fmod d) R.iv hf'
      obtain ⟨i1, i2, i3, i4⟩ := sterms_val f k (m - n.fdiv d * k) d (n.fmod d) R.iv hf'
      have i5 := i3 (Int.le_of_lt R.sk)
      have hv := cfv_pos i1 i5
      rw [e, e']
      refine ⟨by simp, i5, ?_, ?_⟩
      · intro hdn c hc
        rcases List.mem_cons.1 hc with rfl | hc
        · have hn := R.hn
          have hrd := R.rd
          have hd := h.d0
          rcases Int.lt_or_le 0 (n.fdiv d) with z | z
          · omega
          · have z2 := Int.mul_nonneg (Int.le_of_lt hd) (show 0 ≤ -n.fdiv d by omega)
            rw [Int.mul_neg] at z2
            omega
        · exact i5 c hc
      · show ((n.fdiv d : Int) + (cfv (sterms f k (m - n.fdiv d * k) d (n.fmod d)))⁻¹) * (((sres f k (m - n.fdiv d * k) d (n.fmod d)).1 : Int) : Rat) = ((n.fdiv d * (sres f k (m - n.fdiv d * k) d (n.fmod d)).1 + (sres f k (m - n.fdiv d * k) d (n.fmod d)).2 : Int) : Rat)
        rw [Rat.intCast_add, Rat.intCast_mul]
        generalize cfv (sterms f k (m - n.fdiv d * k) d (n.fmod d)) = v at *
        generalize (((sres f k (m - n.fdiv d * k) d (n.fmod d)).1 : Int) : Rat) = X at *
        generalize (((sres f k (m - n.fdiv d * k) d (n.fmod d)).2 : Int) : Rat) = Y at *
        have hv0 : v ≠ 0 := by intro z; rw [z] at hv; exact absurd hv (by decide)
        clear e e' i3 i5 si R
        grind
    · have e : sres (f + 1) n d m k = (if n.fmod d = 0 then n.fdiv d else n.fdiv d + 1, 1) := by
        conv => lhs; unfold sres
        rw [if_neg h1]
      have e' : sterms (f + 1) n d m k = [if n.fmod d = 0 then n.fdiv d else n.fdiv d + 1] := by
        conv => lhs; unfold sterms
        rw [if_neg h1]
      have si := sres_si (f + 1) n d m k h hf
      rw [e] at si
      rw [e, e']
      refine ⟨by simp, by simp, ?_, ?_⟩
      · intro _ c hc
        rw [List.mem_singleton.1 hc]
        have := si.N0
        simp only at this
        omega
      · rw [cfv_one]
        show _ * ((1 : Int) : Rat) = _
        rw [show ((1 : Int) : Rat) = 1 by simp, Rat.mul_one]
/-- What simplest returns, as a rational number. -/
theorem sterms_rat (n d m k : Int) (f : Nat) (h : Iv n d m k) (hf : (d + k).toNat < f) : Si n d m k (cfv (sterms f n d m k)).num (cfv (sterms f n d m k)).den := by
  have si := sres_si f n d m k h hf
  obtain ⟨-, -, -, e⟩ := sterms_val f n d m k h hf
  obtain ⟨e1, e2⟩ := rat_of (v := cfv (sterms f n d m k)) si.D0 si.gcd (by rw [← e, Rat.mul_comm])
  rw [e1, e2]
  exact si
end Go.Proofs.YtkhebidmfjbhaaaGreatDoor
namespace Go.Proofs.YtkhebidmfjbhaaaGreatDoor

end Go.Proofs.YtkhebidmfjbhaaaGreatDoor
namespace Go.Proofs.YtkhebidmfjbhaaaGreatDoor
open Go.RowKit

/-- The slice v holds the integers l. -/
def NumL (W : World) (v : Value) (l : List Int) : Prop := ∃ a c, v = .slice a l.length c ∧ l.length ≤ c ∧ (0 < l.length → ∃ g o, a = some ⟨g, o, none⟩ ∧ g < W.heap.size ∧ ∀ i (h : i < l.length), ∃ p u b, W.cell? ⟨g, o + i * 3, none⟩ = some p ∧ W.cell? ⟨g, o + i * 3 + 1, none⟩ = some u ∧ W.cell? ⟨g, o + i * 3 + 2, none⟩ = some (.bool b) ∧ IntV W p u b (l[i]'h))
theorem NumL.below {W W' : World} {v : Value} {l : List Int} (h : NumL W v l) (hb : Below W.heap.size W W') : NumL W' v l := by
  obtain ⟨a, c, hv, hc, hr⟩ := h
  refine ⟨a, c, hv, hc, fun h0 => ?_⟩
  obtain ⟨g, o, ha, hg, hcl⟩ := hr h0
  refine ⟨g, o, ha, Nat.lt_of_lt_of_le hg hb.size, fun i hi => ?_⟩
  obtain ⟨p, u, b, c0, c1, c2, hI⟩ := hcl i hi
  exact ⟨p, u, b, (below_at hb _ hg).trans c0, (below_at hb _ hg).trans c1, (below_at hb _ hg).trans c2, hI.below hb⟩
theorem St.sub {w W : World} {R R' : List (Nat × Value × Value × Bool × Value × Value × Bool)} {Z Z' : List (Nat × Value × Value × Bool)} {N N' : List (Value × Value × Bool × Int)} (h : St w W R Z N) (hR : R'.Sublist R) (hZ : Z'.Sublist Z) (hN : ∀ e, e ∈ N' → e ∈ N) : St w W R' Z' N' :=
  ⟨h.below, fun e he => h.rats e (hR.subset he), fun e he => h.nums e (hZ.subset he), fun e he => h.nats e (hN e he), fun e he => h.own e (hZ.subset he), h.dist.sublist hZ, fun e he d hd => h.apart e (hR.subset he) d (hZ.subset hd), h.distR.sublist hR, fun e he => h.ownR e (hR.subset he)⟩
/-- Convergents until a denominator is too long. -/
def cbr : Int × Int × Int × Int → List Int → Int × Int × Int × Int
  | s, [] => s
  | s, c :: l => if 1000 < dn (cstep s c).2.1 then cstep s c else cbr (cstep s c) l
theorem cbr_cvs : ∀ (l : List Int) (s : Int × Int × Int × Int), Cv s → (∀ c, c ∈ l → 1 ≤ c) → dn (cvs s l).2.1 ≤ 1000 → cbr s l = cvs s l
  | [], _, _, _, _ => rfl
  | c :: l, s, h, hp, hd => by
    have hc := hp c List.mem_cons_self
    have h1 : s.2.1 ≤ c * s.2.1 := by
      have := Int.mul_le_mul_of_nonneg_right hc h.pos.1
      omega
    have h2 := h.pos
    have hs := h.step (c := c) (by omega)
    have hm := (cvs_mono l (cstep s c) hs (fun x hx => hp x (List.mem_cons_of_mem _ hx))).2
    have h3 : dn (cstep s c).2.1 ≤ 1000 := Nat.le_trans (dn_mono hs.pos.1 hm) hd
    unfold cbr
    rw [if_neg (by omega)]
    exact cbr_cvs l (cstep s c) hs (fun x hx => hp x (List.mem_cons_of_mem _ hx)) hd
/-- How large numerators get. -/
structure Cn (c0 : Int) (s : Int × Int × Int × Int) : Prop where
  x0 : 0 ≤ s.1 - c0 * s.2.1
  x1 : s.1 - c0 * s.2.1 ≤ s.2.1
  b0 : 0 ≤ s.2.2.1 - c0 * s.2.2.2
  b1 : s.2.2.1 - c0 * s.2.2.2 ≤ s.2.2.2 ∨ s.1 - c0 * s.2.1 = 0 ∧ s.2.2.1 - c0 * s.2.2.2 = 1 ∧ s.2.1 = 1 ∧ s.2.2.2 = 0
theorem Cn.start (c : Int) : Cn c (cstep (1, 0, 0, 1) c) := by
  refine ⟨?_, ?_, ?_, .inr ⟨?_, ?_, ?_, ?_⟩⟩ <;> simp [cstep]
theorem Cn.step {c0 c : Int} {s : Int × Int × Int × Int} (h : Cn c0 s) (hc : 1 ≤ c) (hx : 0 ≤ s.2.1) (hb : 0 ≤ s.2.2.2) : Cn c0 (cstep s c) := by
  obtain ⟨xn, xd, bn, bd⟩ := s
  obtain ⟨x0, x1, b0, b1⟩ := h
  simp only [cstep] at *
  have e : c * xn + bn - c0 * (c * xd + bd) = c * (xn - c0 * xd) + (bn - c0 * bd) := by grind
  have p1 : 0 ≤ c * (xn - c0 * xd) := Int.mul_nonneg (by omega) x0
  have p2 : c * (xn - c0 * xd) ≤ c * xd := Int.mul_le_mul_of_nonneg_left x1 (by omega)
  refine ⟨by simp only; rw [e]; omega, ?_, x0, .inl x1⟩
  simp only
  rw [e]
  rcases b1 with b1 | ⟨h1, h2, h3, h4⟩
  · omega
  · rw [h1, h2, h3, h4]; omega
theorem Cn.abs {c0 : Int} {s : Int × Int × Int × Int} (h : Cn c0 s) (hx : 0 ≤ s.2.1) : (s.1.natAbs : Int) ≤ (c0.natAbs + 1) * s.2.1 := by
  obtain ⟨x0, x1, -, -⟩ := h
  have e : ((c0.natAbs : Int) + 1) * s.2.1 = c0.natAbs * s.2.1 + s.2.1 := by grind
  have e2 : ((c0 * s.2.1).natAbs : Int) = c0.natAbs * s.2.1 := by rw [Int.natAbs_mul, Int.natCast_mul, Int.natAbs_of_nonneg hx]
  omega
theorem Cn.absb {c0 : Int} {s : Int × Int × Int × Int} (h : Cn c0 s) (hx : 0 ≤ s.2.2.2) : (s.2.2.1.natAbs : Int) ≤ (c0.natAbs + 1) * s.2.2.2 + 1 := by
  obtain ⟨-, -, b0, b1⟩ := h
  have e : ((c0.natAbs : Int) + 1) * s.2.2.2 = c0.natAbs * s.2.2.2 + s.2.2.2 := by grind
  have e2 : ((c0 * s.2.2.2).natAbs : Int) = c0.natAbs * s.2.2.2 := by rw [Int.natAbs_mul, Int.natCast_mul, Int.natAbs_of_nonneg hx]
  rcases b1 with b1 | ⟨h1, h2, h3, h4⟩
  · omega
  · have h5 : s.2.2.1 = 1 := by rw [h4, Int.mul_zero] at h2; omega
    rw [h5, h4, Int.mul_zero]; decide
/-- The state before the i-th term. -/
structure Cs (l : List Int) (i : Nat) (s : Int × Int × Int × Int) : Prop where
  cbr : cbr (1, 0, 0, 1) l = cbr s (l.drop i)
  cv : Cv s
  one : i = 0 ∧ s = (1, 0, 0, 1) ∨ 1 ≤ i ∧ ∃ c0 : Int, dn c0 ≤ 1000 ∧ Cn c0 s
  den : dn s.2.1 ≤ 1000
  bef : dn s.2.2.2 ≤ 1000
theorem Cs.start (l : List Int) : Cs l 0 (1, 0, 0, 1) := ⟨rfl, Cv.start, .inl ⟨rfl, rfl⟩, by show dn 0 ≤ 1000; rw [dn_zero]; omega, by show dn 1 ≤ 1000; rw [dn_one]; omega⟩
theorem tail_pos {l : List Int} {i : Nat} (hp : ∀ c, c ∈ l.tail → 1 ≤ c) (hi : i < l.length) (h1 : 1 ≤ i) : 1 ≤ l[i]'hi := by
  refine hp _ ?_
  cases l with
  | nil => cases hi
  | cons a l =>
    cases i with
    | zero => omega
    | succ i => exact List.getElem_mem _
theorem Cs.next {l : List Int} {i : Nat} {s : Int × Int × Int × Int} (h : Cs l i s) (hi : i < l.length) (hp : ∀ c, c ∈ l.tail → 1 ≤ c) (hd : ∀ c, c ∈ l → dn c ≤ 1000) : Cv (cstep s (l[i]'hi)) ∧ (∃ c0 : Int, dn c0 ≤ 1000 ∧ Cn c0 (cstep s (l[i]'hi))) ∧ (dn (cstep s (l[i]'hi)).2.1 ≤ 1000 → Cs l (i + 1) (cstep s (l[i]'hi))) ∧ (1000 < dn (cstep s (l[i]'hi)).2.1 → Go.Proofs.YtkhebidmfjbhaaaGreatDoor.cbr (1, 0, 0, 1) l = cstep s (l[i]'hi)) := by
  have hdr : l.drop i = l[i]'hi :: l.drop (i + 1) := List.drop_eq_getElem_cons hi
  have hde := hd _ (List.getElem_mem hi)
  have hpo := tail_pos hp hi
  have hcb := h.cbr
  rw [hdr] at hcb
  generalize l[i]'hi = c at *
  have key : Cv (cstep s c) ∧ ∃ c0 : Int, dn c0 ≤ 1000 ∧ Cn c0 (cstep s c) := by
    rcases h.one with ⟨rfl, rfl⟩ | ⟨h1, c0, h2, h3⟩
    · exact ⟨h.cv.step (by simp), c, hde, Cn.start c⟩
    · have hc := hpo h1
      have hb := h.cv.pos
      have := Int.mul_nonneg (show 0 ≤ c by omega) hb.1
      exact ⟨h.cv.step (by omega), c0, h2, h3.step hc hb.1 hb.2⟩
  obtain ⟨k1, c0, k2, k3⟩ := key
  refine ⟨k1, ⟨c0, k2, k3⟩, fun h5 => ⟨?_, k1, .inr ⟨by omega, c0, k2, k3⟩, h5, h.den⟩, fun h5 => ?_⟩
  · rw [hcb]
    conv => lhs; unfold Go.Proofs.YtkhebidmfjbhaaaGreatDoor.cbr
    rw [if_neg (by omega)]
  · rw [hcb]
    conv => lhs; unfold Go.Proofs.YtkhebidmfjbhaaaGreatDoor.cbr
    rw [if_pos h5]
/-- The numbers of a state are not long. -/
theorem Cs.small {l : List Int} {i : Nat} {s : Int × Int × Int × Int} (h : Cs l i s) : dn s.1 ≤ 3000 ∧ dn s.2.1 ≤ 1000 ∧ dn s.2.2.1 ≤ 3000 ∧ dn s.2.2.2 ≤ 1000 := by
  refine ⟨?_, h.den, ?_, h.bef⟩
  · rcases h.one with ⟨-, rfl⟩ | ⟨-, c0, h2, h3⟩
    · show dn 1 ≤ 3000; rw [dn_one]; omega
    · have hb := h.cv.pos
      have h4 := h3.abs hb.1
      have h5 : dn (((c0.natAbs : Int) + 1) * s.2.1) ≤ 1001 + 1000 := dn_times (dn_plus (k := 1000) (by rw [dn_abs]; exact h2) (by rw [dn_one]; omega)) h.den (by omega)
      have h6 := dn_mono (x := (s.1.natAbs : Int)) (by omega) h4
      rw [dn_abs] at h6
      omega
  · rcases h.one with ⟨-, rfl⟩ | ⟨-, c0, h2, h3⟩
    · show dn 0 ≤ 3000; rw [dn_zero]; omega
    · have hb := h.cv.pos
      have h4 := h3.absb hb.2
      have h5 : dn (((c0.natAbs : Int) + 1) * s.2.2.2) ≤ 1001 + 1000 := dn_times (dn_plus (k := 1000) (by rw [dn_abs]; exact h2) (by rw [dn_one]; omega)) h.bef (by omega)
      have h7 : dn (((c0.natAbs : Int) + 1) * s.2.2.2 + 1) ≤ 2001 + 1 := dn_plus (by omega) (by rw [dn_one]; omega)
      have h6 := dn_mono (x := (s.2.2.1.natAbs : Int)) (by omega) h4
      rw [dn_abs] at h6
      omega
end Go.Proofs.YtkhebidmfjbhaaaGreatDoor
