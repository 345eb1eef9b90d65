/-
  What Sum of package modp and of the reference, Copy and Same return, for every list.
-/
import Derived.Test.YthglnchcggpdlaaDoorRef2
import Derived.Laws.AppendOwnNone
namespace Go.Proofs.YthglnchcggpdlaaDoor
open Go.RowKit M

def sumL (p : Int) (zs : List Int) (k : Nat) : Int := (zs.take k).foldl (fun s z => (s + md p z) % p) 0
theorem sumL_zero (p : Int) (zs : List Int) : sumL p zs 0 = 0 := by simp [sumL]
theorem sumL_succ (p : Int) (zs : List Int) (k : Nat) (h : k < zs.length) : sumL p zs (k + 1) = (sumL p zs k + md p (zs.getD k 0)) % p := by
  unfold sumL
  rw [List.take_succ_eq_append_getElem h, List.foldl_append]
  simp [List.getD, List.getElem?_eq_getElem h]
theorem sumL_bd {p : Int} (hp : pr p = true) (zs : List Int) (k : Nat) (hk : k ≤ zs.length) : 0 ≤ sumL p zs k ∧ sumL p zs k < p := by
  have q := pr_bd hp
  induction k with
  | zero => rw [sumL_zero]; omega
  | succ k _ => rw [sumL_succ p zs k (by omega)]; exact ⟨Int.emod_nonneg _ (by omega), Int.emod_lt_of_pos _ (by omega)⟩

/-- The slice value v of n numbers reads as zs; what it reads lies below block B. -/
def Ints (w : World) (B : Nat) (a : Option Addr) (n : Nat) (zs : List Int) : Prop :=
  n ≤ zs.length ∧ n ≤ 17592186044416 ∧ (0 < n → ∃ g o, a = some ⟨g, o, none⟩ ∧ g < B ∧ ∀ j, j < n → w.cell? ⟨g, o + j, none⟩ = some (.int .i64 (zs.getD j 0)))
theorem Ints.below {w w' : World} {B : Nat} {a : Option Addr} {n : Nat} {zs : List Int} (h : Ints w B a n zs) (hb : Below B w w') : Ints w' B a n zs :=
  ⟨h.1, h.2.1, fun hn => by
    obtain ⟨g, o, e, hg, hc⟩ := h.2.2 hn
    exact ⟨g, o, e, hg, fun j hj => (hb.cell (p := ⟨g, o + j, none⟩) hg).trans (hc j hj)⟩⟩
theorem Ints.drewN {w : World} {B : Nat} {a : Option Addr} {n : Nat} {zs : List Int} (h : Ints w B a n zs) (d : Nat) : Ints (w.drewN d) B a n zs := h

theorem sum_no (p : Int) (a : Option Addr) (n c : Nat) (w : World) (ht : Tab w) (hp : pr p = false) :
    Calls Tryd.prog 37 #[.int .i64 p, .slice a n c] w (Two 0 8 w) := by
  have HT := Lib.hid ht
  clear ht
  go_enter Tryd.func37, Tryd.ntmps37
  go_wp2_with (go_at_call 11; refine (prime_any p _ HT.out).mono ?_; rw [hp]; rintro e w' ⟨rfl, rfl⟩)
  go_ret2
  exact ⟨rfl, rfl⟩
theorem sum_none (p : Int) (a : Option Addr) (c : Nat) (w : World) (ht : Tab w) (hp : pr p = true) :
    Calls Tryd.prog 37 #[.int .i64 p, .slice a 0 c] w (Two 0 0 w) := by
  have HT := Lib.hid ht
  clear ht
  go_enter Tryd.func37, Tryd.ntmps37
  go_wp2_with (go_at_call 11; refine (prime_any p _ HT.out).mono ?_; rw [hp]; rintro e w' ⟨rfl, rfl⟩)
  refine wp_loop_rounds 1 ?_
  rw [rounds_succ]
  go_wp2
  go_ret2
  exact ⟨rfl, rfl⟩
theorem sum_some (p : Int) (g o n c : Nat) (zs : List Int) (w : World) (ht : Tab w) (hp : pr p = true) (hz : n ≤ zs.length) (hn : n ≤ 17592186044416) (hc : ∀ j, j < n → w.cell? ⟨g, o + j, none⟩ = some (.int .i64 (zs.getD j 0))) :
    Calls Tryd.prog 37 #[.int .i64 p, .slice (some ⟨g, o, none⟩) n c] w (Two (sumL p zs n) 0 w) := by
  have HT := Lib.hid ht
  have HC := Lib.hid hc
  obtain ⟨q1, q2⟩ := pr_bd hp
  clear ht hc
  go_enter Tryd.func37, Tryd.ntmps37
  go_wp2_with (go_at_call 11; refine (prime_any p _ HT.out).mono ?_; rw [hp]; rintro e w' ⟨rfl, rfl⟩)
  go_loop [6, 14] (fun s i => ∃ j : Nat, j ≤ n ∧ i = .int .i64 j ∧ s = .int .i64 (sumL p zs j)) (fun _ i => n - (intOf i).toNat)
  case atStart => exact ⟨0, by omega, rfl, by rw [sumL_zero]⟩
  case round =>
    obtain ⟨j, j2, rfl, rfl⟩ := hrel
    obtain ⟨s1, s2⟩ := sumL_bd hp zs j (by omega)
    by_cases hj : j < n
    · have hcell := HC.out j hj
      have hs := sumL_succ p zs j (by omega)
      generalize zs.getD j 0 = x at hcell hs
      obtain ⟨x1, x2⟩ := md_bd hp x
      have HS := Lib.hid hs
      clear hs
      go_wp2_with (go_at_call 47; refine (residue_any _ _ _ (by omega) (by omega)).mono ?_; rintro e w' ⟨rfl, rfl⟩)
      go_round
      case rel => exact ⟨j + 1, by omega, by go_num, by rw [HS.out]⟩
      case measure => simp [intOf]; omega
    · obtain rfl : j = n := by omega
      clear HC
      go_wp2
      go_ret2
      exact ⟨rfl, rfl⟩
theorem sum_all (p : Int) (a : Option Addr) (n c B : Nat) (zs : List Int) (w : World) (ht : Tab w) (hp : pr p = true) (h : Ints w B a n zs) :
    Calls Tryd.prog 37 #[.int .i64 p, .slice a n c] w (Two (sumL p zs n) 0 w) := by
  rcases Nat.eq_zero_or_pos n with e | e
  · subst e; rw [sumL_zero]; exact sum_none p a c w ht hp
  · obtain ⟨g, o, rfl, _, hc⟩ := h.2.2 e
    exact sum_some p g o n c zs w ht hp h.1 h.2.1 hc

theorem rsum_no (p : Int) (a : Option Addr) (n c : Nat) (w : World) (hp : pr p = false) :
    Calls Tryd.prog 38 #[.int .i64 p, .slice a n c] w (Two 0 8 w) := by
  go_enter Tryd.func38, Tryd.ntmps38
  go_wp2_with (go_at_call 12; refine (rprime_any p _).mono ?_; rw [hp]; rintro e w' ⟨rfl, rfl⟩)
  go_ret2
  exact ⟨rfl, rfl⟩
theorem rsum_none (p : Int) (a : Option Addr) (c : Nat) (w : World) (hp : pr p = true) :
    Calls Tryd.prog 38 #[.int .i64 p, .slice a 0 c] w (Two 0 0 w) := by
  go_enter Tryd.func38, Tryd.ntmps38
  go_wp2_with (go_at_call 12; refine (rprime_any p _).mono ?_; rw [hp]; rintro e w' ⟨rfl, rfl⟩)
  refine wp_loop_rounds 1 ?_
  rw [rounds_succ]
  go_wp2
  go_ret2
  exact ⟨rfl, rfl⟩
theorem rsum_some (p : Int) (g o n c : Nat) (zs : List Int) (w : World) (hp : pr p = true) (hz : n ≤ zs.length) (hn : n ≤ 17592186044416) (hc : ∀ j, j < n → w.cell? ⟨g, o + j, none⟩ = some (.int .i64 (zs.getD j 0))) :
    Calls Tryd.prog 38 #[.int .i64 p, .slice (some ⟨g, o, none⟩) n c] w (Two (sumL p zs n) 0 w) := by
  have HC := Lib.hid hc
  obtain ⟨q1, q2⟩ := pr_bd hp
  clear hc
  go_enter Tryd.func38, Tryd.ntmps38
  go_wp2_with (go_at_call 12; refine (rprime_any p _).mono ?_; rw [hp]; rintro e w' ⟨rfl, rfl⟩)
  go_loop [6, 7] (fun s i => ∃ j : Nat, j ≤ n ∧ i = .int .i64 j ∧ s = .int .i64 (sumL p zs j)) (fun _ i => n - (intOf i).toNat)
  case atStart => exact ⟨0, by omega, rfl, by rw [sumL_zero]⟩
  case round =>
    obtain ⟨j, j2, rfl, rfl⟩ := hrel
    obtain ⟨s1, s2⟩ := sumL_bd hp zs j (by omega)
    by_cases hj : j < n
    · have hcell := HC.out j hj
      have hs := sumL_succ p zs j (by omega)
      generalize zs.getD j 0 = x at hcell hs
      obtain ⟨x1, x2⟩ := md_bd hp x
      have HS := Lib.hid hs
      clear hs
      go_wp2_with (go_at_call 14; refine (rmod_ok p _ _ hp).mono ?_; rintro e w' ⟨rfl, rfl⟩)
      go_round
      case rel => exact ⟨j + 1, by omega, by go_num, by rw [HS.out]⟩
      case measure => simp [intOf]; omega
    · obtain rfl : j = n := by omega
      clear HC
      go_wp2
      go_ret2
      exact ⟨rfl, rfl⟩
theorem rsum_all (p : Int) (a : Option Addr) (n c B : Nat) (zs : List Int) (w : World) (hp : pr p = true) (h : Ints w B a n zs) :
    Calls Tryd.prog 38 #[.int .i64 p, .slice a n c] w (Two (sumL p zs n) 0 w) := by
  rcases Nat.eq_zero_or_pos n with e | e
  · subst e; rw [sumL_zero]; exact rsum_none p a c w hp
  · obtain ⟨g, o, rfl, _, hc⟩ := h.2.2 e
    exact rsum_some p g o n c zs w hp h.1 h.2.1 hc

/-! ### Same -/
def Yes (w : World) (e : Ending) (w' : World) : Prop := e = .returned (.bool true) ∧ ∃ d, w' = w.drewN d
theorem same_none (a b : Option Addr) (c d : Nat) (w : World) :
    Calls Tryd.prog 39 #[.slice a 0 c, .slice b 0 d] w (Yes w) := by
  go_enter Tryd.func39, Tryd.ntmps39
  go_wp2
  refine wp_loop_rounds 1 ?_
  rw [rounds_succ]
  go_wp2
  go_ret
  exact ⟨rfl, 0, rfl⟩
theorem same_some (g o c g' o' c' n : Nat) (zs : List Int) (w : World) (hn : n ≤ 17592186044416) (hc : ∀ j, j < n → w.cell? ⟨g, o + j, none⟩ = some (.int .i64 (zs.getD j 0))) (hc' : ∀ j, j < n → w.cell? ⟨g', o' + j, none⟩ = some (.int .i64 (zs.getD j 0))) :
    Calls Tryd.prog 39 #[.slice (some ⟨g, o, none⟩) n c, .slice (some ⟨g', o', none⟩) n c'] w (Yes w) := by
  have HC := Lib.hid hc
  have HC' := Lib.hid hc'
  clear hc hc'
  go_enter Tryd.func39, Tryd.ntmps39
  go_wp2
  go_loopw [5] (fun i wr => ∃ j k : Nat, j ≤ n ∧ i = .int .i64 j ∧ wr = w.drewN k) (fun i _ => n - (intOf i).toNat)
  case atStart => exact ⟨0, 0, by omega, rfl, rfl⟩
  case round =>
    obtain ⟨j, k, j2, rfl, rfl⟩ := hrel
    by_cases hj : j < n
    · have h1 : (w.drewN k).cell? ⟨g, o + j, none⟩ = some (.int .i64 (zs.getD j 0)) := HC.out j hj
      have h2 : (w.drewN k).cell? ⟨g', o' + j, none⟩ = some (.int .i64 (zs.getD j 0)) := HC'.out j hj
      generalize zs.getD j 0 = x at h1 h2
      obtain ⟨wd, hwd⟩ : ∃ wd, wd = w.drewN k := ⟨_, rfl⟩
      rw [← hwd] at h1 h2 ⊢
      have HD := Lib.hid hwd
      clear hwd HC HC'
      have i1 : (0 : Int) ≤ (j : Int) := by omega
      have i2 : (j : Int) < (n : Int) := by omega
      go_wp2_with fail
      go_quiet (fail)
      go_wp2
      go_roundw
      case rel => exact ⟨j + 1, _, by omega, by go_num, by rw [HD.out, World.drewN_drewN]⟩
      case measure => simp [intOf]; omega
    · clear HC HC'
      go_wp2
      go_ret
      exact ⟨rfl, _, rfl⟩
theorem same_all (a b : Option Addr) (n c c' B B' : Nat) (zs : List Int) (w : World) (h : Ints w B a n zs) (h' : Ints w B' b n zs) :
    Calls Tryd.prog 39 #[.slice a n c, .slice b n c'] w (Yes w) := by
  rcases Nat.eq_zero_or_pos n with e | e
  · subst e; exact same_none a b c c' w
  · obtain ⟨g, o, rfl, _, hc⟩ := h.2.2 e
    obtain ⟨g', o', rfl, _, hc'⟩ := h'.2.2 e
    exact same_some g o c g' o' c' n zs w h.2.1 hc hc'

/-! ### Copy -/
theorem own_empty (w : World) : (w.alloc (.cells #[] 3)).ownsRow w.heap.size 3 1 (.slice (some ⟨w.heap.size, 0, none⟩) 0 0) 0 [] :=
  ⟨rfl, .inr ⟨w.heap.size, 0, #[], rfl, Nat.le_refl _, by show (w.heap.push _)[w.heap.size]? = _; simp, Nat.le_refl _, Nat.zero_le _, rfl, rfl⟩⟩
/-- What the call owns reads as a list of numbers. -/
theorem ints_of_own {w : World} {base : Nat} {v : Value} {n : Nat} {zs : List Int} (h : w.ownsRow base 3 1 v n ((zs.take n).map (Value.int .i64))) (hn : n ≤ zs.length) (hm : n ≤ 17592186044416) : ∃ a c, v = .slice a n c ∧ Ints w w.heap.size a n zs := by
  rcases Nat.eq_zero_or_pos n with e | e
  · subst e
    rcases h.2 with ⟨hv, _⟩ | ⟨g, cap, cur, hv, _⟩
    · exact ⟨none, 0, hv, hn, hm, fun t => absurd t (by omega)⟩
    · exact ⟨_, cap, hv, hn, hm, fun t => absurd t (by omega)⟩
  · obtain ⟨g, cap, hv, _, hg⟩ := h.form e
    subst hv
    refine ⟨_, cap, rfl, hn, hm, fun _ => ⟨g, 0, rfl, hg, fun j hj => ?_⟩⟩
    rw [Nat.zero_add, h.cellAt j (by omega), List.getElem?_map, List.getElem?_take, if_pos hj, List.getElem?_eq_getElem (by omega)]
    simp [List.getD, List.getElem?_eq_getElem (show j < zs.length by omega)]
def Copied (n : Nat) (zs : List Int) (w : World) (e : Ending) (w' : World) : Prop := ∃ a c, e = .returned (.slice a n c) ∧ Ints w' w'.heap.size a n zs ∧ Below w.heap.size w w'
theorem copy_none (zs : List Int) (w : World) : Calls Tryd.prog 36 #[.slice none 0 0] w (Copied 0 zs w) := by
  obtain ⟨i0, hi, hz0, hz1, hz2⟩ := info_parts infoInt
  go_enter Tryd.func36, Tryd.ntmps36
  go_wp2_with (at_builtin; refine wpList_append_own_none rfl _ _ 31 rfl w.heap.size 3 i0 1 Tryd.underlying31 hi _ _ _ rfl (own_empty w) rfl ?_)
  go_ret
  exact ⟨_, _, rfl, ⟨Nat.zero_le _, Nat.zero_le _, fun t => absurd t (by omega)⟩, (Below.refl _ _).alloc (Nat.le_refl _) _⟩
theorem copy_some (g o n c : Nat) (zs : List Int) (w : World) (hg : g < w.heap.size) (hz : n ≤ zs.length) (hn : n ≤ 17592186044416) (hc : ∀ j, j < n → w.cell? ⟨g, o + j, none⟩ = some (.int .i64 (zs.getD j 0))) :
    Calls Tryd.prog 36 #[.slice (some ⟨g, o, none⟩) n c] w (Copied n zs w) := by
  obtain ⟨i0, hi, hz0, hz1, hz2⟩ := info_parts infoInt
  have hnews : ∀ j u, ((zs.take n).map (Value.int .i64))[j]? = some u → (w.alloc (.cells #[] 3)).cell? ((⟨g, o, none⟩ : Addr).add j) = some u := by
    intro j u hu
    rw [WideShapes.add_plain, World.cell?_alloc_past _ _ _ hg]
    rw [List.getElem?_map, List.getElem?_take] at hu
    by_cases hj : j < n
    · rw [if_pos hj, List.getElem?_eq_getElem (show j < zs.length by omega)] at hu
      rw [hc j hj, ← hu]
      simp [List.getD, List.getElem?_eq_getElem (show j < zs.length by omega)]
    · rw [if_neg hj] at hu; cases hu
  have HC := Lib.hid hc
  have HN := Lib.hid hnews
  clear hc hnews
  go_enter Tryd.func36, Tryd.ntmps36
  go_wp2_with (at_builtin; refine wpList_append_own _ rfl _ _ 31 rfl w.heap.size 3 i0 (.int .i64 0) 1 8 Tryd.underlying31 hi hz0 hz1 hz2 rfl (by decide) _ _ _ rfl (own_empty w) ⟨g, o, none⟩ n c ((zs.take n).map (Value.int .i64)) rfl ?c0 HN.out ?c2 ?c3 ?c4 ?c5 ?_)
  case c0 => simp; omega
  case c2 => intro u hu; obtain ⟨x, _, rfl⟩ := List.mem_map.1 hu; rfl
  case c3 => unfold maxLen; omega
  case c4 => omega
  case c5 => simp
  · intro v' w1 hown' hgrow _
    have hown : w1.ownsRow w.heap.size 3 1 v' n ((zs.take n).map (Value.int .i64)) := by
      rw [List.map_take]; exact hown'
    obtain ⟨a, cc, hv, hI⟩ := ints_of_own hown hz hn
    have hb : Below w.heap.size w w1 := ((Below.refl _ _).alloc (Nat.le_refl _) _).grown hgrow (by simp) (fun k hk => by cases hk; exact Nat.le_refl _)
    have HI := Lib.hid hI
    have HB := Lib.hid hb
    clear hown hown' hgrow hI hb HC HN
    subst hv
    go_wp2
    go_ret
    exact ⟨_, _, rfl, HI.out, HB.out⟩
theorem copy_zero (ad : Addr) (c : Nat) (zs : List Int) (w : World) :
    Calls Tryd.prog 36 #[.slice (some ad) 0 c] w (Copied 0 zs w) := by
  obtain ⟨i0, hi, hz0, hz1, hz2⟩ := info_parts infoInt
  go_enter Tryd.func36, Tryd.ntmps36
  go_wp2_with (at_builtin; refine wpList_append_own _ rfl _ _ 31 rfl w.heap.size 3 i0 (.int .i64 0) 1 8 Tryd.underlying31 hi hz0 hz1 hz2 rfl (by decide) _ _ _ rfl (own_empty w) ad 0 c [] rfl rfl ?c1 ?c2 ?c3 ?c4 ?c5 ?_)
  case c1 => intro j u hu; cases hu
  case c2 => intro u hu; cases hu
  case c3 => unfold maxLen; omega
  case c4 => omega
  case c5 => simp
  · intro v' w1 hown' hgrow _
    have hown : w1.ownsRow w.heap.size 3 1 v' 0 ((zs.take 0).map (Value.int .i64)) := hown'
    obtain ⟨a, cc, hv, hI⟩ := ints_of_own hown (Nat.zero_le _) (Nat.zero_le _)
    have hb : Below w.heap.size w w1 := ((Below.refl _ _).alloc (Nat.le_refl _) _).grown hgrow (by simp) (fun k hk => by cases hk; exact Nat.le_refl _)
    have HI := Lib.hid hI
    have HB := Lib.hid hb
    clear hown hown' hgrow hI hb
    subst hv
    go_wp2
    go_ret
    exact ⟨_, _, rfl, HI.out, HB.out⟩
theorem copy_all (a : Option Addr) (n c : Nat) (zs : List Int) (w : World) (h : Ints w w.heap.size a n zs) (hnil : n = 0 → a = none → c = 0) :
    Calls Tryd.prog 36 #[.slice a n c] w (Copied n zs w) := by
  rcases Nat.eq_zero_or_pos n with e | e
  · subst e
    cases a with
    | none => rw [hnil rfl rfl]; exact copy_none zs w
    | some ad => exact copy_zero ad c zs w
  · obtain ⟨g, o, rfl, hg, hc⟩ := h.2.2 e
    exact copy_some g o n c zs w hg h.1 h.2.1 hc
end Go.Proofs.YthglnchcggpdlaaDoor
