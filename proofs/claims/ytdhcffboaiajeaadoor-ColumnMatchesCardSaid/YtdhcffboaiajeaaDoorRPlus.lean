/-
  What the reference's Sum and Plus return.
-/
import Derived.Test.YtdhcffboaiajeaaDoorRSize
import Derived.Test.YtdhcffboaiajeaaDoorRDense
import Derived.Test.YtdhcffboaiajeaaDoorLaw
namespace Go.Proofs.YtdhcffboaiajeaaDoor
open Go.RowKit M

theorem VecN.intsL {w : World} {k n : Nat} {f : Int → Int} (h : VecN w k n f) (hn : n ≤ 100000) : IntsF w (.slice (some ⟨k, 0, none⟩) n n) n f :=
  ⟨_, n, rfl, Nat.le_refl _, by unfold maxLen; omega, fun _ => ⟨k, 0, rfl, h.lt, fun i hi => by rw [Nat.zero_add]; exact h.cell i hi⟩⟩
theorem IntsF.below {w w' : World} {v : Value} {n : Nat} {f : Int → Int} (h : IntsF w v n f) (hb : Below w.heap.size w w') : IntsF w' v n f := by
  obtain ⟨a, c, rfl, h1, h2, h3⟩ := h
  refine ⟨a, c, rfl, h1, h2, fun h0 => ?_⟩
  obtain ⟨g, o, rfl, hg, hc⟩ := h3 h0
  have := hb.size
  exact ⟨g, o, rfl, by omega, fun i hi => (hb.cell (p := ⟨g, o + i, none⟩) hg).trans (hc i hi)⟩
set_option maxHeartbeats 1000000 in
set_option maxRecDepth 100000 in
theorem rsum_any (p k : Int) (va vb : Value) (n : Nat) (f g : Int → Int) (w : World) (hp : pr p = true) (hn : n ≤ 4096) (hf : ∀ i, 0 ≤ f i ∧ f i < p) (hg : ∀ i, 0 ≤ g i ∧ g i < p) (ha : IntsF w va n f) (hb : IntsF w vb n g) :
    Calls Tryd.prog 79 #[.int .i64 p, va, .int .i64 k, vb] w (GivesI n (fun i => md p (f i + md p k * g i)) w) := by
  obtain ⟨i0, hi, hz0, hz1, hz2⟩ := info_parts infoI
  obtain ⟨a, ca, rfl, a1, a2, a3⟩ := ha
  obtain ⟨b, cb, rfl, b1, b2, b3⟩ := hb
  unfold maxLen at a2 b2
  have hpb := pr_bd hp
  have hkk := md_bd hp k
  have CM := Lib.hid (fun W => rmod_ok p k W hp)
  obtain ⟨kk, hkk2⟩ : ∃ kk, kk = md p k := ⟨_, rfl⟩
  rw [← hkk2] at CM hkk ⊢
  have HF := Lib.hid hf
  have HG := Lib.hid hg
  clear hf hg hkk2
  go_enter Tryd.func79, Tryd.ntmps79
  go_wp2_with (at_make; refine wpList_make_full _ rfl _ _ 41 rfl w.heap.size 3 i0 (.int .i64 0) 1 Tryd.underlying41 hi hz0 hz1 .i64 .i64 _ _ n rfl rfl rfl rfl (by rw [hz2]; omega) (by unfold maxLen; omega) (Nat.le_refl _) ?_; intro w2 hr2 hg2)
  have V2 := VecN.made hr2
  have B2 := (Below.refl w.heap.size w).grown hg2 (Nat.le_refl _) (by simp)
  obtain ⟨kb, hkb⟩ : ∃ kb, kb = w.heap.size := ⟨_, rfl⟩
  rw [← hkb] at V2 ⊢
  have hkb0 : w.heap.size ≤ kb := by omega
  clear hr2 hg2 hkb
  go_loopw [10] (fun i wr => ∃ k : Nat, k ≤ n ∧ i = .int .i64 k ∧ VecN wr kb n (fun i => if i < (k : Int) then md p (f i + kk * g i) else 0) ∧ Below w.heap.size w wr) (fun i _ => n - (intOf i).toNat)
  case atStart => exact ⟨0, Nat.zero_le _, rfl, V2.congr (fun i _ => by rw [if_neg (by omega)]), B2⟩
  case round =>
    clear V2 B2
    obtain ⟨j, hj, rfl, hV, hB⟩ := hrel
    by_cases hlt : j < n
    · obtain ⟨ga, oa, rfl, hga, hca⟩ := a3 (by omega)
      obtain ⟨gb, ob, rfl, hgb, hcb⟩ := b3 (by omega)
      have c0 := (hB.cell (p := ⟨ga, oa + j, none⟩) hga).trans (hca j hlt)
      have d0 := (hB.cell (p := ⟨gb, ob + j, none⟩) hgb).trans (hcb j hlt)
      have hfj := HF.out j
      have hgj := HG.out j
      obtain ⟨x, hx⟩ : ∃ x, x = f j := ⟨_, rfl⟩
      obtain ⟨y, hy⟩ : ∃ y, y = g j := ⟨_, rfl⟩
      rw [← hx] at c0 hfj
      rw [← hy] at d0 hgj
      have hxy := prod_bd (x := kk) (y := y) hkk.1 (by omega) hgj.1 (by omega)
      have hm1 : 0 ≤ (x + kk * y) % p ∧ (x + kk * y) % p < p := ⟨Int.emod_nonneg _ (by omega), Int.emod_lt_of_pos _ (by omega)⟩
      have x0 := hV.cell j hlt
      have xf := hV.free j
      have hkn : (j : Int) < n := by omega
      have hp0 : ¬ p = 0 := by omega
      have hax : ga ≠ kb := by omega
      have hbx : gb ≠ kb := by omega
      have KC := Lib.hid (show ∀ W, wr.grownBy W (some kb) → W.cell? ⟨ga, oa + j, none⟩ = some (.int .i64 x) ∧ W.cell? ⟨gb, ob + j, none⟩ = some (.int .i64 y) from fun W hb => ⟨hb.cell c0 (by intro e; injection e with e; exact hax e), hb.cell d0 (by intro e; injection e with e; exact hbx e)⟩)
      have HX := Lib.hid hx
      have HY := Lib.hid hy
      have HV := Lib.hid hV
      have HB := Lib.hid hB
      clear hca hcb a3 b3 hx hy hV hB
      go_wp2_with fail
      go_region_held3 (fun W => W.cell? ⟨ga, oa + j, none⟩ = some (.int .i64 x) ∧ W.cell? ⟨gb, ob + j, none⟩ = some (.int .i64 y)) (exact KC.out _ (by ((repeat (first | (with_reducible apply grown_drew) | (with_reducible apply grown_set))); with_reducible exact World.grownBy.refl _ _))) (first | (go_at_call 46; (with_reducible refine Calls.mono (CM.out _) ?_); rintro e w' ⟨rfl, rfl⟩) | fail)
      go_wp2
      refine ⟨⟨j + 1, by omega, by go_num, ((HV.out.set hlt ((x + kk * y) % p)).below (bel_drew (Below.refl _ _))).congr fun i _ => ?_, (HB.out.setCell (p := ⟨kb, j, none⟩) hkb0 _).drew⟩, by simp [intOf]; omega⟩
      by_cases e : (i : Int) = j
      · rw [if_pos e, if_pos (by omega), HX.out, HY.out, e]
        rfl
      · rw [if_neg e]
        by_cases e2 : (i : Int) < j
        · rw [if_pos e2, if_pos (by omega)]
        · rw [if_neg e2, if_neg (by omega)]
    · have hkx : j = n := by omega
      subst hkx
      have hV2 : VecN wr kb j (fun i => md p (f i + kk * g i)) := hV.congr fun i hi => by rw [if_pos (by omega)]
      have R := Lib.hid (show GivesI j (fun i => md p (f i + kk * g i)) w (.returned (.slice (some ⟨kb, 0, none⟩) j j)) wr from ⟨_, rfl, hV2.intsL (by omega), fun h hh => by simp [Value.ownBlock] at hh; omega, hB⟩)
      clear hV hB hV2 a3 b3
      go_wp2
      go_ret
      exact R.out
end Go.Proofs.YtdhcffboaiajeaaDoor
