/-
  Columns over a prime field, as lists of rows and coefficients: entries, validity, the list of the entries that are not 0.
-/
import Derived.Test.YtdhcffboaiajeaaDoorMath
namespace Go.Proofs.YtdhcffboaiajeaaDoor
open M

abbrev Tm := Int × Int

/-- The coefficient in a row: that of the first term with the row. -/
def co : List Tm → Int → Int
  | [], _ => 0
  | t :: c, i => if t.1 = i then t.2 else co c i
/-- What the check of the terms behind the row 'last' finds. -/
def chkL (p : Int) : Int → List Tm → Int
  | _, [] => 0
  | last, t :: c => if t.1 < 0 ∨ 1024 ≤ t.1 ∨ t.2 < 1 ∨ p ≤ t.2 then 1 else if t.1 ≤ last then 6 else chkL p t.1 c
/-- What Check answers. -/
def chk (p : Int) (c : List Tm) : Int := if pr p = true then chkL p (-1) c else 8
/-- A column over p whose rows come behind 'last'. -/
def Cl (p : Int) : Int → List Tm → Prop
  | _, [] => True
  | last, t :: c => 0 ≤ t.1 ∧ t.1 < 1024 ∧ 1 ≤ t.2 ∧ t.2 < p ∧ last < t.1 ∧ Cl p t.1 c
abbrev Col (p : Int) (c : List Tm) : Prop := Cl p (-1) c

theorem chkL_zero {p : Int} : ∀ {last : Int} {c : List Tm}, chkL p last c = 0 ↔ Cl p last c
  | _, [] => ⟨fun _ => trivial, fun _ => rfl⟩
  | last, t :: c => by
    unfold chkL Cl
    rw [← chkL_zero]
    by_cases h : t.1 < 0 ∨ 1024 ≤ t.1 ∨ t.2 < 1 ∨ p ≤ t.2
    · rw [if_pos h]; omega
    · rw [if_neg h]
      by_cases h2 : t.1 ≤ last
      · rw [if_pos h2]; omega
      · rw [if_neg h2]; omega
theorem chk_zero {p : Int} {c : List Tm} : chk p c = 0 ↔ pr p = true ∧ Col p c := by
  unfold chk
  by_cases h : pr p = true
  · rw [if_pos h, chkL_zero]; exact ⟨fun g => ⟨h, g⟩, fun g => g.2⟩
  · rw [if_neg h]; exact ⟨fun g => by omega, fun g => absurd g.1 h⟩
theorem Cl.mono {p last last' : Int} : ∀ {c : List Tm}, Cl p last c → last' ≤ last → Cl p last' c
  | [], _, _ => trivial
  | _ :: _, ⟨a, b, c, d, e, f⟩, h => ⟨a, b, c, d, by omega, f⟩
theorem co_below {p last : Int} : ∀ {c : List Tm}, Cl p last c → ∀ {i : Int}, i ≤ last → co c i = 0
  | [], _, _, _ => rfl
  | t :: c, ⟨_, _, _, _, e, f⟩, i, h => by
    unfold co
    rw [if_neg (by omega)]
    exact co_below f (by omega)
theorem co_bd {p last : Int} (hp : 0 < p) : ∀ {c : List Tm}, Cl p last c → ∀ i : Int, 0 ≤ co c i ∧ co c i < p
  | [], _, _ => ⟨Int.le_refl _, hp⟩
  | t :: c, ⟨_, _, _, _, _, f⟩, i => by
    unfold co
    by_cases h : t.1 = i
    · rw [if_pos h]; omega
    · rw [if_neg h]; exact co_bd hp f i
theorem co_out {p last : Int} : ∀ {c : List Tm}, Cl p last c → ∀ {i : Int}, (i < 0 ∨ 1024 ≤ i) → co c i = 0
  | [], _, _, _ => rfl
  | t :: c, ⟨_, _, _, _, _, f⟩, i, h => by
    unfold co
    rw [if_neg (by omega)]
    exact co_out f h
/-- Columns with the same entries are equal. -/
theorem col_ext {p : Int} : ∀ {last last' : Int} {a b : List Tm}, Cl p last a → Cl p last' b → (∀ i, co a i = co b i) → a = b
  | _, _, [], [], _, _, _ => rfl
  | _, _, [], t :: b, _, hb, h => by
    have := h t.1
    have hb3 := hb.2.2.1
    simp only [co, if_true] at this
    omega
  | _, _, t :: a, [], ha, _, h => by
    have := h t.1
    have ha3 := ha.2.2.1
    simp only [co, if_true] at this
    omega
  | _, _, t :: a, s :: b, ha, hb, h => by
    obtain ⟨a1, a2, a3, a4, a5, a6⟩ := ha
    obtain ⟨b1, b2, b3, b4, b5, b6⟩ := hb
    have e1 : t.1 = s.1 := by
      rcases Int.lt_trichotomy t.1 s.1 with g | g | g
      · have := h t.1
        simp only [co, if_true] at this
        rw [if_neg (by omega), co_below b6 (by omega)] at this
        omega
      · exact g
      · have := h s.1
        simp only [co, if_true] at this
        rw [if_neg (by omega), co_below a6 (by omega)] at this
        omega
    have e2 : t.2 = s.2 := by
      have := h t.1
      simp only [co, if_true] at this
      rwa [if_pos e1.symm] at this
    have e3 : a = b := by
      refine col_ext a6 b6 fun i => ?_
      by_cases g : i ≤ t.1
      · rw [co_below a6 g, co_below b6 (by omega)]
      · have := h i
        simp only [co] at this
        rwa [if_neg (by omega), if_neg (by omega)] at this
    rw [e3, show t = s from Prod.ext e1 e2]
/-- The entries of f in n rows from k on that are not 0. -/
def sp (f : Int → Int) : Nat → Nat → List Tm
  | _, 0 => []
  | k, n + 1 => if f k = 0 then sp f (k + 1) n else ((k : Int), f k) :: sp f (k + 1) n
theorem sp_snoc (f : Int → Int) : ∀ (n k : Nat), sp f k (n + 1) = sp f k n ++ (if f ((k + n : Nat) : Int) = 0 then [] else [(((k + n : Nat) : Int), f ((k + n : Nat) : Int))])
  | 0, k => by simp only [sp, Nat.add_zero, List.nil_append]
  | n + 1, k => by
    have ih := sp_snoc f n (k + 1)
    rw [show k + 1 + n = k + (n + 1) by omega] at ih
    rw [sp, ih]
    conv => rhs; rw [sp]
    split <;> simp
theorem sp_col {p : Int} {f : Int → Int} : ∀ {n k : Nat} {last : Int}, (∀ i, 0 ≤ f i ∧ f i < p) → k + n ≤ 1024 → last < k → Cl p last (sp f k n)
  | 0, _, _, _, _, _ => trivial
  | n + 1, k, last, hf, hn, hl => by
    unfold sp
    by_cases h : f k = 0
    · rw [if_pos h]; exact sp_col hf (by omega) (by omega)
    · rw [if_neg h]
      have := hf k
      exact ⟨by show (0 : Int) ≤ (k : Int); omega, by show (k : Int) < 1024; omega, by show (1 : Int) ≤ f k; omega, this.2, hl, sp_col hf (by omega) (by show (k : Int) < ((k + 1 : Nat) : Int); omega)⟩
theorem sp_co {f : Int → Int} : ∀ (n k : Nat) (i : Int), co (sp f k n) i = if (k : Int) ≤ i ∧ i < ((k + n : Nat) : Int) then f i else 0
  | 0, k, i => by
    rw [if_neg (by omega)]
    rfl
  | n + 1, k, i => by
    have ih := sp_co (f := f) n (k + 1) i
    unfold sp
    by_cases h : f k = 0
    · rw [if_pos h, ih]
      by_cases hi : (k : Int) = i
      · rw [if_neg (by omega)]
        rw [← hi, h]
        split <;> rfl
      · by_cases h2 : ((k + 1 : Nat) : Int) ≤ i ∧ i < ((k + 1 + n : Nat) : Int)
        · rw [if_pos h2, if_pos (by omega)]
        · rw [if_neg h2, if_neg (by omega)]
    · rw [if_neg h]
      unfold co
      by_cases hi : (k : Int) = i
      · rw [if_pos hi, if_pos (by omega)]
        show f k = _
        rw [hi]
      · rw [if_neg hi, ih]
        by_cases h2 : ((k + 1 : Nat) : Int) ≤ i ∧ i < ((k + 1 + n : Nat) : Int)
        · rw [if_pos h2, if_pos (by omega)]
        · rw [if_neg h2, if_neg (by omega)]
theorem sp_congr {f g : Int → Int} : ∀ (n k : Nat), (∀ i : Nat, k ≤ i → i < k + n → f i = g i) → sp f k n = sp g k n
  | 0, _, _ => rfl
  | n + 1, k, h => by
    unfold sp
    rw [sp_congr n (k + 1) (fun i a b => h i (by omega) (by omega)), h k (by omega) (by omega)]
/-- A column is the list of its entries. -/
theorem sp_self {p : Int} (hp : 0 < p) {c : List Tm} (h : Col p c) : sp (co c) 0 1024 = c := by
  refine col_ext (p := p) (last := -1) (sp_col (co_bd hp h) (by omega) (by omega)) h fun i => ?_
  rw [sp_co]
  by_cases g : ((0 : Nat) : Int) ≤ i ∧ i < ((0 + 1024 : Nat) : Int)
  · rw [if_pos g]
  · rw [if_neg g, co_out h (by omega)]
/-- The last row; 0 where there is none. -/
def low (c : List Tm) : Int := match c.getLast? with | some t => t.1 | none => 0
/-- The coefficient in the last row. -/
def lowC (c : List Tm) : Int := match c.getLast? with | some t => t.2 | none => 0
theorem low_cons {t s : Tm} {c : List Tm} : low (t :: s :: c) = low (s :: c) := by
  unfold low
  rw [List.getLast?_cons_of_ne_nil (by simp)]
theorem lowC_cons {t s : Tm} {c : List Tm} : lowC (t :: s :: c) = lowC (s :: c) := by
  unfold lowC
  rw [List.getLast?_cons_of_ne_nil (by simp)]
theorem low_props {p : Int} : ∀ {last : Int} {c : List Tm}, Cl p last c → c ≠ [] → last < low c ∧ 0 ≤ low c ∧ low c < 1024 ∧ 1 ≤ lowC c ∧ lowC c < p ∧ co c (low c) = lowC c ∧ ∀ i, low c < i → co c i = 0
  | _, [], _, h => absurd rfl h
  | last, [t], ⟨a, b, c, d, e, _⟩, _ => by
    refine ⟨e, a, b, c, d, ?_, fun i hi => ?_⟩
    · show (if t.1 = t.1 then t.2 else 0) = t.2
      rw [if_pos rfl]
    · show (if t.1 = i then t.2 else 0) = 0
      have : t.1 < i := hi
      rw [if_neg (by omega)]
  | last, t :: s :: l, ⟨a, b, c, d, e, f⟩, _ => by
    obtain ⟨g1, g2, g3, g4, g5, g6, g7⟩ := low_props f (by simp)
    rw [low_cons, lowC_cons]
    refine ⟨by omega, g2, g3, g4, g5, ?_, fun i hi => ?_⟩
    · unfold co
      rw [if_neg (by omega)]
      exact g6
    · unfold co
      rw [if_neg (by omega)]
      exact g7 i hi
/-- Two columns, row by row. -/
def mg : List Tm → List Tm → List (Int × Int × Int)
  | [], [] => []
  | t :: a, [] => (t.1, t.2, 0) :: mg a []
  | [], s :: b => (s.1, 0, s.2) :: mg [] b
  | t :: a, s :: b => if t.1 < s.1 then (t.1, t.2, 0) :: mg a (s :: b) else if s.1 < t.1 then (s.1, 0, s.2) :: mg (t :: a) b else (t.1, t.2, s.2) :: mg a b
  termination_by a b => a.length + b.length
/-- What is kept of a list of rows with two coefficients. -/
def kept (f : Int → Int → Int) : List (Int × Int × Int) → List Tm
  | [] => []
  | t :: l => if f t.2.1 t.2.2 = 0 then kept f l else (t.1, f t.2.1 t.2.2) :: kept f l
theorem kept_append (f : Int → Int → Int) : ∀ l m, kept f (l ++ m) = kept f l ++ kept f m
  | [], _ => rfl
  | t :: l, m => by
    simp only [List.cons_append, kept, kept_append f l m]
    split <;> simp
theorem kept_cl {p : Int} {f : Int → Int → Int} (hf : ∀ x y, 0 ≤ f x y ∧ f x y < p) : ∀ (a b : List Tm) {l l' last : Int}, Cl p l a → Cl p l' b → last ≤ l → last ≤ l' → Cl p last (kept f (mg a b))
  | [], [], _, _, _, _, _, _, _ => by rw [mg]; trivial
  | t :: a, [], l, l', last, ⟨a1, a2, a3, a4, a5, a6⟩, hb, h1, h2 => by
    rw [mg, kept]
    have := hf t.2 0
    have ih : Cl p t.1 (kept f (mg a [])) := kept_cl hf a [] a6 (l' := t.1) trivial (Int.le_refl _) (Int.le_refl _)
    split
    · exact ih.mono (by omega)
    · rename_i hz; exact ⟨a1, a2, by have hz' : ¬ f t.2 0 = 0 := hz; show 1 ≤ f t.2 0; omega, this.2, by show last < t.1; omega, ih⟩
  | [], s :: b, l, l', last, ha, ⟨a1, a2, a3, a4, a5, a6⟩, h1, h2 => by
    rw [mg, kept]
    have := hf 0 s.2
    have ih : Cl p s.1 (kept f (mg [] b)) := kept_cl hf [] b (l := s.1) trivial a6 (Int.le_refl _) (Int.le_refl _)
    split
    · exact ih.mono (by omega)
    · rename_i hz; exact ⟨a1, a2, by have hz' : ¬ f 0 s.2 = 0 := hz; show 1 ≤ f 0 s.2; omega, this.2, by show last < s.1; omega, ih⟩
  | t :: a, s :: b, l, l', last, ⟨a1, a2, a3, a4, a5, a6⟩, ⟨b1, b2, b3, b4, b5, b6⟩, h1, h2 => by
    rw [mg]
    split
    · rename_i g
      rw [kept]
      have := hf t.2 0
      have ih : Cl p t.1 (kept f (mg a (s :: b))) := kept_cl hf a (s :: b) a6 (l' := t.1) ⟨b1, b2, b3, b4, g, b6⟩ (Int.le_refl _) (Int.le_refl _)
      split
      · exact ih.mono (by omega)
      · rename_i hz; exact ⟨a1, a2, by have hz' : ¬ f t.2 0 = 0 := hz; show 1 ≤ f t.2 0; omega, this.2, by show last < t.1; omega, ih⟩
    · rename_i g
      split
      · rename_i g2
        rw [kept]
        have := hf 0 s.2
        have ih : Cl p s.1 (kept f (mg (t :: a) b)) := kept_cl hf (t :: a) b (l := s.1) ⟨a1, a2, a3, a4, g2, a6⟩ b6 (Int.le_refl _) (Int.le_refl _)
        split
        · exact ih.mono (by omega)
        · rename_i hz; exact ⟨b1, b2, by have hz' : ¬ f 0 s.2 = 0 := hz; show 1 ≤ f 0 s.2; omega, this.2, by show last < s.1; omega, ih⟩
      · rename_i g2
        rw [kept]
        have := hf t.2 s.2
        have ih : Cl p t.1 (kept f (mg a b)) := kept_cl hf a b a6 b6 (Int.le_refl _) (by omega)
        split
        · exact ih.mono (by omega)
        · rename_i hz; exact ⟨a1, a2, by have hz' : ¬ f t.2 s.2 = 0 := hz; show 1 ≤ f t.2 s.2; omega, this.2, by show last < t.1; omega, ih⟩
  termination_by a b => a.length + b.length
theorem kept_low {p : Int} {f : Int → Int → Int} (hf : ∀ x y, 0 ≤ f x y ∧ f x y < p) {a b : List Tm} {l l' i : Int} (ha : Cl p l a) (hb : Cl p l' b) (h1 : i ≤ l) (h2 : i ≤ l') : co (kept f (mg a b)) i = 0 :=
  co_below (kept_cl hf a b ha hb h1 h2) (Int.le_refl _)
theorem kept_co {p : Int} {f : Int → Int → Int} (hf : ∀ x y, 0 ≤ f x y ∧ f x y < p) (h0 : f 0 0 = 0) : ∀ (a b : List Tm) {l l' : Int}, Cl p l a → Cl p l' b → ∀ i, co (kept f (mg a b)) i = f (co a i) (co b i)
  | [], [], _, _, _, _, i => by rw [mg]; exact h0.symm
  | t :: a, [], l, l', ⟨a1, a2, a3, a4, a5, a6⟩, hb, i => by
    rw [mg, kept]
    have ih := kept_co hf h0 a [] a6 hb i
    have e0 : co ([] : List Tm) i = 0 := rfl
    by_cases g : t.1 = i
    · have h3 : co (t :: a) i = t.2 := by unfold co; rw [if_pos g]
      rw [h3, e0]
      dsimp only
      split
      · rename_i g2
        rw [kept_low hf a6 (l' := t.1) (b := []) trivial (by omega) (by omega), g2]
      · unfold co; rw [if_pos g]
    · have h3 : co (t :: a) i = co a i := by conv => lhs; unfold co; rw [if_neg g]
      rw [h3, ← ih]
      dsimp only
      split
      · rfl
      · conv => lhs; unfold co; rw [if_neg g]
  | [], s :: b, l, l', ha, ⟨a1, a2, a3, a4, a5, a6⟩, i => by
    rw [mg, kept]
    have ih := kept_co hf h0 [] b ha a6 i
    have e0 : co ([] : List Tm) i = 0 := rfl
    by_cases g : s.1 = i
    · have h3 : co (s :: b) i = s.2 := by unfold co; rw [if_pos g]
      rw [h3, e0]
      dsimp only
      split
      · rename_i g2
        rw [kept_low hf (l := s.1) (a := []) trivial a6 (by omega) (by omega), g2]
      · unfold co; rw [if_pos g]
    · have h3 : co (s :: b) i = co b i := by conv => lhs; unfold co; rw [if_neg g]
      rw [h3, ← ih]
      dsimp only
      split
      · rfl
      · conv => lhs; unfold co; rw [if_neg g]
  | t :: a, s :: b, l, l', ⟨a1, a2, a3, a4, a5, a6⟩, ⟨b1, b2, b3, b4, b5, b6⟩, i => by
    rw [mg]
    have hA : co (t :: a) i = if t.1 = i then t.2 else co a i := rfl
    have hB : co (s :: b) i = if s.1 = i then s.2 else co b i := rfl
    split
    · rename_i g
      have hb' : Cl p t.1 (s :: b) := ⟨b1, b2, b3, b4, g, b6⟩
      have ih := kept_co hf h0 a (s :: b) a6 hb' i
      rw [kept]
      by_cases e : t.1 = i
      · rw [hA, if_pos e, co_below hb' (i := i) (by omega)]
        dsimp only
        split
        · rename_i g2
          rw [kept_low hf a6 hb' (by omega) (by omega), g2]
        · unfold co; rw [if_pos e]
      · rw [hA, if_neg e, ← ih]
        dsimp only
        split
        · rfl
        · conv => lhs; unfold co; rw [if_neg e]
    · rename_i g
      split
      · rename_i g2
        have ha' : Cl p s.1 (t :: a) := ⟨a1, a2, a3, a4, g2, a6⟩
        have ih := kept_co hf h0 (t :: a) b ha' b6 i
        rw [kept]
        by_cases e : s.1 = i
        · rw [hB, if_pos e, co_below ha' (i := i) (by omega)]
          dsimp only
          split
          · rename_i g3
            rw [kept_low hf ha' b6 (by omega) (by omega), g3]
          · unfold co; rw [if_pos e]
        · rw [hB, if_neg e, ← ih]
          dsimp only
          split
          · rfl
          · conv => lhs; unfold co; rw [if_neg e]
      · rename_i g2
        have ih := kept_co hf h0 a b a6 b6 i
        have hts : s.1 = t.1 := by omega
        rw [kept]
        by_cases e : t.1 = i
        · rw [hA, if_pos e, hB, if_pos (show s.1 = i by omega)]
          dsimp only
          split
          · rename_i g3
            rw [kept_low hf a6 b6 (by omega) (by omega), g3]
          · unfold co; rw [if_pos e]
        · rw [hA, if_neg e, hB, if_neg (show ¬ s.1 = i by omega), ← ih]
          dsimp only
          split
          · rfl
          · conv => lhs; unfold co; rw [if_neg e]
  termination_by a b => a.length + b.length
/-- a + k b. -/
def pls (p : Int) (a : List Tm) (k : Int) (b : List Tm) : List Tm := sp (fun i => md p (co a i + md p k * co b i)) 0 1024
theorem pls_col {p : Int} (hp : pr p = true) (a : List Tm) (k : Int) (b : List Tm) : Col p (pls p a k b) :=
  sp_col (fun _ => md_bd hp _) (by omega) (by omega)
theorem pls_co {p : Int} {a : List Tm} {k : Int} {b : List Tm} (ha : Col p a) (hb : Col p b) (i : Int) : co (pls p a k b) i = md p (co a i + md p k * co b i) := by
  unfold pls
  rw [sp_co]
  by_cases g : ((0 : Nat) : Int) ≤ i ∧ i < ((0 + 1024 : Nat) : Int)
  · rw [if_pos g]
  · rw [if_neg g, co_out ha (by omega), co_out hb (by omega)]
    simp [md]
theorem pls_mg {p : Int} (hp : pr p = true) {a : List Tm} {k : Int} {b : List Tm} (ha : Col p a) (hb : Col p b) : kept (fun x y => md p (x + md p k * y)) (mg a b) = pls p a k b := by
  have hf : ∀ x y, 0 ≤ md p (x + md p k * y) ∧ md p (x + md p k * y) < p := fun _ _ => md_bd hp _
  refine col_ext (p := p) (kept_cl (last := -1) hf a b ha hb (Int.le_refl _) (Int.le_refl _)) (pls_col hp a k b) fun i => ?_
  rw [kept_co hf (by simp [md]) a b ha hb, pls_co ha hb]
end Go.Proofs.YtdhcffboaiajeaaDoor
