/-
  What the reference's Prime, Bring, Primes and Field return: the list of the primes is a new slice, and Field picks a prime out of it.
-/
import Derived.Test.YtdhcffboaiajeaaDoorBase
import Derived.LoopTactic
import Derived.OwnWalk
import Derived.Deep.AppendLies
import Derived.Laws.OwnMore
import Derived.Outline
namespace Go.Proofs.YtdhcffboaiajeaaDoor
open Go.RowKit M

def fP (p : Int) (d : Nat) : Bool := decide (p.toNat % d = 0)
theorem rprime_mid (p : Int) (w : World) (h2 : 2 ≤ p) (h3 : p ≤ 251) :
    Calls Tryd.prog 54 #[.int .i64 p] w fun e w' => e = .returned (.bool (pr p)) ∧ w = w' := by
  obtain ⟨q, rfl⟩ := Int.eq_ofNat_of_zero_le (show 0 ≤ p by omega)
  go_enter Tryd.func54, Tryd.ntmps54
  go_wp2
  go_loop [3] (fun d => ∃ j : Nat, 2 ≤ j ∧ j ≤ q ∧ NoHit (fP q) 2 j ∧ d = .int .i64 j) (fun d => q - (intOf d).toNat)
  case atStart => exact ⟨2, by omega, by omega, NoHit.start _ _, rfl⟩
  case round =>
    obtain ⟨j, j1, j2, hN, rfl⟩ := hrel
    have HN := Lib.hid hN
    clear hN
    by_cases hj : j < q
    · by_cases hx : q % j = 0
      · have HR : Hid (pr (q : Int) = false) := by
          show pr (q : Int) = false
          cases e : pr (q : Int)
          · rfl
          · have := (trial (p := q) (by omega) (by omega)).1 (by simpa [pr] using e) j j1 hj
            exact absurd hx this
        have hx' : (((q : Int) % (j : Int)) == 0) = true := by
          have : (q : Int) % (j : Int) = ((q % j : Nat) : Int) := by simp
          rw [this, hx]; rfl
        clear hx
        go_wp2
        go_ret
        exact ⟨ret_bool HR.out.symm, rfl⟩
      · have HR := Lib.hid (HN.out.snoc (by unfold fP; simp [hx]))
        have hx' : (((q : Int) % (j : Int)) == 0) = false := by
          have : (q : Int) % (j : Int) = ((q % j : Nat) : Int) := by simp
          rw [this]; simpa using (by omega : ((q % j : Nat) : Int) ≠ 0)
        clear hx
        go_wp2
        go_round
        case rel => exact ⟨j + 1, by omega, by omega, HR.out, by go_num⟩
        case measure => simp [intOf]; omega
    · have HR : Hid (pr (q : Int) = true) := by
        show pr (q : Int) = true
        have := (trial (p := q) (by omega) (by omega)).2 (fun d h1 h3 => by have := HN.out d h1 (by omega); simpa [fP] using this)
        simpa [pr] using this
      go_wp2
      go_ret
      exact ⟨ret_bool HR.out.symm, rfl⟩
theorem rprime_any (p : Int) (w : World) :
    Calls Tryd.prog 54 #[.int .i64 p] w fun e w' => e = .returned (.bool (pr p)) ∧ w = w' := by
  by_cases h2 : 2 ≤ p
  · by_cases h3 : p ≤ 251
    · exact rprime_mid p w h2 h3
    · rw [pr_high (by omega)]
      go_enter Tryd.func54, Tryd.ntmps54
      go_wp2
      go_ret
      exact ⟨rfl, rfl⟩
  · rw [pr_low (by omega)]
    go_enter Tryd.func54, Tryd.ntmps54
    go_wp2
    go_ret
    exact ⟨rfl, rfl⟩

theorem bring_any (a m : Int) (w : World) (h1 : 1 ≤ m) (h2 : m ≤ 251) :
    Calls Tryd.prog 76 #[.int .i64 a, .int .i64 m] w fun e w' => e = .returned (.int .i64 (md m a)) ∧ w = w' := by
  by_cases ha : 0 ≤ a
  · obtain ⟨b1, b2⟩ : 0 ≤ a % m ∧ a % m < m := ⟨Int.emod_nonneg _ (by omega), Int.emod_lt_of_pos _ (by omega)⟩
    go_enter Tryd.func76, Tryd.ntmps76
    go_wp2
    go_ret
    exact ⟨rfl, rfl⟩
  · obtain ⟨b1, b2, b3, b4⟩ := tmod_neg m a h1 (by omega)
    have B3 := Lib.hid b3
    have B4 := Lib.hid b4
    clear b3 b4
    by_cases hz : a.tmod m < 0
    · go_enter Tryd.func76, Tryd.ntmps76
      go_wp2
      go_ret
      exact ⟨ret_int (B3.out hz), rfl⟩
    · go_enter Tryd.func76, Tryd.ntmps76
      go_wp2
      go_ret
      have hz' : a.tmod m = 0 := by omega
      exact ⟨ret_int (hz'.trans (B4.out hz')), rfl⟩

theorem infoInt : (Tryd.prog.info? 3).map (fun i => (i.zero, i.size, i.bytes)) = some (some (.int .i64 0), 1, 8) := by kernel_rfl
def vals (l : List Nat) : List Value := l.map fun q : Nat => Value.int .i64 (q : Int)
theorem vals_snoc (l : List Nat) (j : Nat) : vals (l ++ [j]) = vals l ++ [.int .i64 (j : Int)] := by simp [vals]
theorem own_ge {w : World} {base : Nat} {e : TypeId} {size n : Nat} {v : Value} {xs : List Value} (h : w.ownsRow base e size v n xs) (k : Nat) (hk : v.ownBlock = some k) : base ≤ k := by
  rcases h.2 with ⟨rfl, _⟩ | ⟨g, cap, cur, rfl, hg, _⟩
  · cases hk
  · simp [Value.ownBlock] at hk
    omega
set_option maxHeartbeats 1000000 in
set_option maxRecDepth 100000 in
theorem primes_any (w : World) :
    Calls Tryd.prog 75 #[] w fun e w' => ∃ v, e = .returned v ∧ w'.ownsRow w.heap.size 3 1 v 54 (vals PL) ∧ Below w.heap.size w w' := by
  obtain ⟨i0, hi, hz0, hz1, hz2⟩ := info_parts infoInt
  go_enter Tryd.func75, Tryd.ntmps75
  go_wp2
  go_loopw [1, 2] (fun v i wr => ∃ j : Nat, 2 ≤ j ∧ j ≤ 252 ∧ i = .int .i64 j ∧ wr.ownsRow w.heap.size 3 1 v (PK j).length (vals (PK j)) ∧ Below w.heap.size w wr) (fun _ i _ => 252 - (intOf i).toNat)
  case atStart => exact ⟨2, by omega, by omega, rfl, by rw [PK_two]; exact World.ownsRow_nil _ _ _ _, Below.refl _ _⟩
  case round =>
    obtain ⟨j, j1, j2, rfl, hown, hb⟩ := hrel
    have hl := PK_len j
    by_cases hj : j < 252
    · cases hp : pr (j : Int)
      · have HR := Lib.hid (PK_miss (by omega) hp)
        go_wp2_with (go_at_call 54; refine (rprime_any _ _).mono ?_; rw [hp]; rintro e w' ⟨rfl, rfl⟩)
        go_roundw
        case rel => exact ⟨j + 1, by omega, by omega, by go_num, by rw [HR.out]; exact hown, hb⟩
        case measure => simp [intOf]; omega
      · have HR := Lib.hid (PK_hit (by omega) hp)
        go_wp2_with (first | (go_at_call 54; refine (rprime_any _ _).mono ?_; rw [hp]; rintro e w' ⟨rfl, rfl⟩) | (at_builtin; refine wpList_append_own _ rfl _ _ 41 rfl w.heap.size 3 i0 (.int .i64 0) 1 8 Tryd.underlying41 hi hz0 hz1 hz2 rfl (by decide) _ _ _ rfl (hown.alloc _) ⟨wr.heap.size, 0, none⟩ 1 1 [.int .i64 (j : Int)] rfl rfl ?c1 ?c2 ?c3 ?c4 ?c5 ?_))
        case c1 =>
          intro k u hk
          match k, hk with
          | 0, hk => simp at hk; subst hk; simp [Addr.add]
        case c2 => intro u hu; simp at hu; subst hu; rfl
        case c3 => unfold maxLen; omega
        case c4 => omega
        case c5 => have := hb.size; simp; omega
        · intro v' w1 hown' hgrow _
          have R1 : w1.ownsRow w.heap.size 3 1 v' (PK (j + 1)).length (vals (PK (j + 1))) := by
            rw [HR.out, vals_snoc, List.length_append]
            exact hown'
          have R2 : Below w.heap.size w w1 := (hb.alloc hb.size _).grown hgrow (by have := hb.size; simp; omega) (own_ge hown)
          clear hown' hgrow hown hb
          go_wp2
          go_roundw
          case rel => exact ⟨j + 1, by omega, by omega, by go_num, R1, R2⟩
          case measure => simp [intOf]; omega
    · obtain rfl : j = 252 := by omega
      rw [PK_end] at hown
      go_wp2
      go_ret
      exact ⟨_, rfl, hown, hb⟩
theorem primes_fld (k : Int) (w : World) :
    Calls Tryd.prog 75 #[] w fun e w' => ∃ g cap, e = .returned (.slice (some ⟨g, 0, none⟩) 54 cap) ∧ w'.cell? ⟨g, (md 54 k).toNat, none⟩ = some (.int .i64 (fld k)) ∧ Below w.heap.size w w' := by
  refine (primes_any w).mono ?_
  rintro e w1 ⟨v, rfl, hown, hb⟩
  obtain ⟨g, cap, hv, _, _⟩ := hown.form (by omega)
  subst hv
  have b := md54 k
  refine ⟨g, cap, rfl, ?_, hb⟩
  rw [hown.cellAt _ (by omega)]
  have e := fld_get k
  rw [List.getElem?_map] at e
  unfold vals
  rw [List.getElem?_map]
  cases h : PL[(md 54 k).toNat]? with
  | none => rw [h] at e; cases e
  | some q => rw [h] at e; simp only [Option.map_some, Option.some.injEq] at e ⊢; rw [e]
theorem field_any (k : Int) (w : World) :
    Calls Tryd.prog 44 #[.int .i64 k] w fun e w' => e = .returned (.int .i64 (fld k)) ∧ Below w.heap.size w w' := by
  obtain ⟨b1, b2⟩ := md54 k
  go_enter Tryd.func44, Tryd.ntmps44
  go_wp2_with fail
  refine (primes_fld k w).mono ?_
  rintro e w1 ⟨g, cap, rfl, hc, hb⟩
  go_wp2_with (go_at_call 76; refine (bring_any _ _ _ (by omega) (by omega)).mono ?_; rintro e w' ⟨rfl, rfl⟩)
  go_ret
  exact ⟨rfl, hb⟩
end Go.Proofs.YtdhcffboaiajeaaDoor
