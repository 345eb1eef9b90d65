/-
  What read returns.
  What value returns.
-/
import Derived.Test.YtkhebidmfjbhaaaGreatDoorZ35
import Derived.BigRegion
import Derived.BigQuiet
import Derived.Test.YtkhebidmfjbhaaaGreatDoorZ32
import Derived.Deep.RegionHeld3
import Derived.Deep.Cut
namespace Go.Proofs.YtkhebidmfjbhaaaGreatDoor
open Go.RowKit

theorem iterPos_of {w : World} {k : Nat} {s : ByteArray} {p : Nat} (h : w.heap[k]? = some (.stringIter s p)) : w.iterPos k = p := by simp [World.iterPos, h]
theorem Wb.lt {W : World} {k : Nat} {mn : Bool} {mk : Int} {fr bk : ByteArray} (h : Wb W k mn mk fr bk) : k < W.heap.size := World.block_lt_of_cell? W ⟨k, 0, none⟩ h.c0
/-- The loop of read. -/
structure Rl (s : ByteArray) (w wr : World) (pos S : Nat) (mn : Bool) (mk : Int) (fr : ByteArray) : Prop where
  it : wr.heap[w.heap.size + 1]? = some (.stringIter s pos)
  box : Wb wr w.heap.size mn mk fr ⟨#[]⟩
  below : Below w.heap.size w wr
  rs : Rs s pos mn mk fr S
theorem heap_set {W : World} {a : Addr} {u : Value} {k : Nat} (h : k ≠ a.block) : (W.setCell a u).heap[k]? = W.heap[k]? := Below.heap_setCell W a u k h
theorem Wb.put0 {W : World} {k : Nat} {mn : Bool} {mk : Int} {fr bk : ByteArray} (h : Wb W k mn mk fr bk) (b : Bool) : Wb (W.setCell ⟨k, 0, none⟩ (.bool b)) k b mk fr bk :=
  ⟨cell_put h.c0, cell_pass h.c1 (by decide), cell_pass h.c2 (by decide), cell_pass h.c3 (by decide), by rw [World.frozen?_setCell]; exact h.f0, by rw [World.frozen?_setCell]; exact h.f1, by rw [World.frozen?_setCell]; exact h.f2, by rw [World.frozen?_setCell]; exact h.f3⟩
theorem Wb.put1 {W : World} {k : Nat} {mn : Bool} {mk : Int} {fr bk : ByteArray} (h : Wb W k mn mk fr bk) (b : Int) : Wb (W.setCell ⟨k, 1, none⟩ (.int .i32 b)) k mn b fr bk :=
  ⟨cell_pass h.c0 (by decide), cell_put h.c1, cell_pass h.c2 (by decide), cell_pass h.c3 (by decide), by rw [World.frozen?_setCell]; exact h.f0, by rw [World.frozen?_setCell]; exact h.f1, by rw [World.frozen?_setCell]; exact h.f2, by rw [World.frozen?_setCell]; exact h.f3⟩
theorem Wb.put2 {W : World} {k : Nat} {mn : Bool} {mk : Int} {fr bk : ByteArray} (h : Wb W k mn mk fr bk) (b : ByteArray) : Wb (W.setCell ⟨k, 2, none⟩ (.string b)) k mn mk b bk :=
  ⟨cell_pass h.c0 (by decide), cell_pass h.c1 (by decide), cell_put h.c2, cell_pass h.c3 (by decide), by rw [World.frozen?_setCell]; exact h.f0, by rw [World.frozen?_setCell]; exact h.f1, by rw [World.frozen?_setCell]; exact h.f2, by rw [World.frozen?_setCell]; exact h.f3⟩
theorem str_nil (s : ByteArray) : (s.toList == []) = decide (s = ⟨#[]⟩) := by
  have h := str_eq s ⟨#[]⟩
  rw [show (⟨#[]⟩ : ByteArray).toList = [] by rw [Lib.toList_data]] at h
  exact h
/-- What read answers. -/
def Rdd (s : ByteArray) (w : World) (e : Ending) (w' : World) : Prop := ∃ (mn : Bool) (mk : Int) (fr bk : ByteArray) (ok : Bool), e = .returned (.tuple #[.agg #[.bool mn, .int .i32 mk, .string fr, .string bk], .bool ok]) ∧ Below w.heap.size w w' ∧ (ok = true → Wr s mn mk fr bk) ∧ (ok = false → ∀ mn mk fr bk, ¬ Wr s mn mk fr bk)
theorem rdd_no {s : ByteArray} {w W : World} {mn : Bool} {mk : Int} {fr bk : ByteArray} (h : Below w.heap.size w W) (hn : ∀ mn mk fr bk, ¬ Wr s mn mk fr bk) : Rdd s w (.returned (.tuple #[.agg #[.bool mn, .int .i32 mk, .string fr, .string bk], .bool false])) W :=
  ⟨mn, mk, fr, bk, false, rfl, h, (fun k => Bool.noConfusion k), fun _ => hn⟩
theorem rdd_yes {s : ByteArray} {w W : World} {mn : Bool} {mk : Int} {fr bk : ByteArray} (h : Below w.heap.size w W) (hn : Wr s mn mk fr bk) : Rdd s w (.returned (.tuple #[.agg #[.bool mn, .int .i32 mk, .string fr, .string bk], .bool true])) W :=
  ⟨mn, mk, fr, bk, true, rfl, h, fun _ => hn, fun k => Bool.noConfusion k⟩
set_option maxHeartbeats 4000000 in
set_option maxRecDepth 100000 in
theorem read_any (s : ByteArray) (w : World) (hs : s.size ≤ 100000) : Calls Tryz.prog 108 #[.string s] w (Rdd s w) := by
  have B0 := Lib.hid (alloc_below w (.cells #[.bool false, .int .i32 0, .string ⟨#[]⟩, .string ⟨#[]⟩] 95))
  have N0 := Lib.hid (Wb.new w false 0 ⟨#[]⟩ ⟨#[]⟩ 95 w.heap.size rfl)
  go_enter Tryz.func108, Tryz.ntmps108
  go_wp2
  go_loopw [4] (fun v wr => ∃ (pos S : Nat) (mn : Bool) (mk : Int) (fr : ByteArray), v = .int .i64 S ∧ Rl s w wr pos S mn mk fr) (fun _ wr => s.size - wr.iterPos (w.heap.size + 1))
  case atStart =>
    refine ⟨0, 0, false, 0, ⟨#[]⟩, rfl, ?_, (by refine N0.out.kept ?_; show ((World.alloc _ _).heap[_]?) = _; rw [heap_alloc_old]; simp), B0.out.alloc (by simp) _, Rs.start s⟩
    have h := World.iter_heap (w.alloc (.cells #[.bool false, .int .i32 0, .string ⟨#[]⟩, .string ⟨#[]⟩] 95)) s 0
    simpa using h
  case round =>
    clear B0 N0
    obtain ⟨pos, S, mn, mk, fr, rfl, hR⟩ := hrel
    have hpos0 := iterPos_of hR.it
    have hSl := hR.rs.S_le
    by_cases hp : pos < s.size
    · have hit := hR.it
      have hlt1 : w.heap.size + 1 < wr.heap.size := (Array.getElem?_eq_some_iff.1 hit).1
      obtain ⟨C, wd, hC, hwd, hca⟩ : ∃ (C : Int) (wd : Nat), Utf8.decode s pos = (C.toNat, wd) ∧ 1 ≤ wd ∧ 0 ≤ C ∧ C ≤ 2147483647 ∧ ((s[pos]'hp).toNat < 128 ∧ C = (s[pos]'hp).toNat ∧ wd = 1 ∨ 128 ≤ (s[pos]'hp).toNat ∧ 128 ≤ C) := by
        by_cases ha : (s[pos]'hp).toNat < 128
        · exact ⟨((s[pos]'hp).toNat : Nat), 1, by rw [decode_ascii s pos hp ha]; rfl, by omega, by omega, by omega, .inl ⟨ha, rfl, rfl⟩⟩
        · have h1 := decode_high s pos hp (by omega)
          have h2 := decode_le s pos
          refine ⟨((Utf8.decode s pos).1 : Nat), (Utf8.decode s pos).2, rfl, h1.2, by omega, by omega, .inr ⟨by omega, by omega⟩⟩
      have hnx : ∀ ty, (Instr.next (.pointer (some ⟨w.heap.size + 1, 0, none⟩)) true ty).run Tryz.prog wr = .ok (.tuple #[.bool true, .int .i64 pos, .int .i32 C]) (wr.iterAt (w.heap.size + 1) s (pos + wd)) := fun ty => by
        rw [Lib.run_next_any_at wr (w.heap.size + 1) s pos ty hit hp, hC]
        simp only [Int.toNat_of_nonneg hca.1]
      have hR1 : Rl s w (wr.iterAt (w.heap.size + 1) s (pos + wd)) (pos + wd) S mn mk fr ∨ True := .inr trivial
      have hb1 := hR.box.kept (Lib.iterAt_other wr (w.heap.size + 1) w.heap.size s (pos + wd) (by omega))
      have hi1 := Lib.iterAt_heap wr (w.heap.size + 1) s pos (pos + wd) hit
      have hw1 := Lib.below_iterAt hR.below (k := w.heap.size + 1) (by omega) s (pos + wd)
      have hRS := Lib.hid hR.rs
      obtain ⟨W1, hW1⟩ : ∃ W1, W1 = wr.iterAt (w.heap.size + 1) s (pos + wd) := ⟨_, rfl⟩
      rw [← hW1] at hnx hb1 hi1 hw1
      have HI := Lib.hid hi1
      have HB := Lib.hid hw1
      have HX := Lib.hid hb1
      obtain ⟨c0, c1, c2, c3, f0, f1, f2, f3⟩ := hb1
      clear hi1 hw1 hW1 hR1 hR hit hC
      have HP := Lib.hid hpos0
      clear hpos0
      by_cases h45 : C = 45
      · obtain ⟨hasc, hwd1⟩ : s[pos]'hp = 45 ∧ wd = 1 := by
          rcases hca.2.2 with ⟨h1, h2, h3⟩ | ⟨h1, h2⟩
          · exact ⟨UInt8.toNat_inj.1 (by show _ = 45; omega), h3⟩
          · omega
        subst h45
        subst hwd1
        by_cases h0 : pos = 0
        · subst h0
          go_wp2
          go_roundw
          case rel =>
            obtain ⟨z1, z2, z3, z4⟩ := hRS.out.zero
            subst z1 z2 z3 z4
            exact ⟨1, 1, true, 0, ⟨#[]⟩, rfl, by rw [heap_set (by simp)]; exact HI.out, HX.out.put0 true, below_set HB.out 0 (Nat.le_refl _) _, Rs.minus hp hasc⟩
          case measure => (rw [iterPos_of (s := s) (p := 1) (by first | exact HI.out | (rw [heap_set (by simp)]; exact HI.out) | (rw [heap_set (by simp), heap_set (by simp)]; exact HI.out) | (show ((W1.setCell _ _).setCell _ _).heap[_]? = _; rw [heap_set (by simp), heap_set (by simp)]; exact HI.out)), HP.out]; omega)
        · have e0 : ((pos : Int) == 0) = false := by rw [beq_eq_false_iff_ne]; omega
          go_wp2
          exact bodyPost_ret (v := .tuple #[.agg #[.bool false, .int .i32 0, .string ⟨#[]⟩, .string ⟨#[]⟩], .bool false]) (by simp [results, Tryz.results108, go_sem, c0, c1, c2, c3]) rfl (rdd_no (below_set (below_set (below_set (below_set HB.out 0 (Nat.le_refl _) _) 1 (Nat.le_refl _) _) 2 (Nat.le_refl _) _) 3 (Nat.le_refl _) _) (hRS.out.bad hp (by rw [hasc]; decide) (fun h => h0 h.1) (fun _ => by rw [hasc]; decide)))
      · by_cases h46 : C = 46 ∨ C = 47
        · obtain ⟨hasc, hwd1⟩ : s[pos]'hp = UInt8.ofNat C.toNat ∧ wd = 1 := by
            rcases hca.2.2 with ⟨h1, h2, h3⟩ | ⟨h1, h2⟩
            · refine ⟨?_, h3⟩
              rw [h2]
              simp
            · omega
          subst hwd1
          have hsl1 : (S : Int) ≤ (pos : Int) := by omega
          by_cases hm : mk = 0
          · subst hm
            have e45 : (C == 45) = false := by rw [beq_eq_false_iff_ne]; omega
            rcases h46 with rfl | rfl
            · go_wp2
              go_region
              go_wp2
              go_roundw
              case rel => exact ⟨pos + 1, pos + 1, mn, 46, s.extract S pos, by simp, by show ((W1.setCell _ _).setCell _ _).heap[_]? = _; rw [heap_set (by simp), heap_set (by simp)]; exact HI.out, ((HX.out.put1 46).put2 _).kept rfl, (below_set (below_set HB.out 1 (Nat.le_refl _) _) 2 (Nat.le_refl _) _).drew, hRS.out.mark hp (by decide) hasc⟩
              case measure => (rw [iterPos_of (s := s) (p := pos + 1) (by first | exact HI.out | (rw [heap_set (by simp)]; exact HI.out) | (rw [heap_set (by simp), heap_set (by simp)]; exact HI.out) | (show ((W1.setCell _ _).setCell _ _).heap[_]? = _; rw [heap_set (by simp), heap_set (by simp)]; exact HI.out)), HP.out]; omega)
            · go_wp2
              go_region
              go_wp2
              go_roundw
              case rel => exact ⟨pos + 1, pos + 1, mn, 47, s.extract S pos, by simp, by show ((W1.setCell _ _).setCell _ _).heap[_]? = _; rw [heap_set (by simp), heap_set (by simp)]; exact HI.out, ((HX.out.put1 47).put2 _).kept rfl, (below_set (below_set HB.out 1 (Nat.le_refl _) _) 2 (Nat.le_refl _) _).drew, hRS.out.mark hp (by decide) hasc⟩
              case measure => (rw [iterPos_of (s := s) (p := pos + 1) (by first | exact HI.out | (rw [heap_set (by simp)]; exact HI.out) | (rw [heap_set (by simp), heap_set (by simp)]; exact HI.out) | (show ((W1.setCell _ _).setCell _ _).heap[_]? = _; rw [heap_set (by simp), heap_set (by simp)]; exact HI.out)), HP.out]; omega)
          · have em : (mk == 0) = false := by rw [beq_eq_false_iff_ne]; omega
            rcases h46 with rfl | rfl
            · go_wp2
              exact bodyPost_ret (v := .tuple #[.agg #[.bool false, .int .i32 0, .string ⟨#[]⟩, .string ⟨#[]⟩], .bool false]) (by simp [results, Tryz.results108, go_sem, c0, c1, c2, c3]) rfl (rdd_no (below_set (below_set (below_set (below_set HB.out 0 (Nat.le_refl _) _) 1 (Nat.le_refl _) _) 2 (Nat.le_refl _) _) 3 (Nat.le_refl _) _) (hRS.out.bad hp (by rw [hasc]; decide) (fun h => absurd (hasc.symm.trans h.2) (by decide)) (fun h => absurd h hm)))
            · go_wp2
              exact bodyPost_ret (v := .tuple #[.agg #[.bool false, .int .i32 0, .string ⟨#[]⟩, .string ⟨#[]⟩], .bool false]) (by simp [results, Tryz.results108, go_sem, c0, c1, c2, c3]) rfl (rdd_no (below_set (below_set (below_set (below_set HB.out 0 (Nat.le_refl _) _) 1 (Nat.le_refl _) _) 2 (Nat.le_refl _) _) 3 (Nat.le_refl _) _) (hRS.out.bad hp (by rw [hasc]; decide) (fun h => absurd (hasc.symm.trans h.2) (by decide)) (fun h => absurd h hm)))
        · by_cases hd : 48 ≤ C ∧ C ≤ 57
          · obtain ⟨hasc, hwd1⟩ : isDig (s[pos]'hp) = true ∧ wd = 1 := by
              rcases hca.2.2 with ⟨h1, h2, h3⟩ | ⟨h1, h2⟩
              · exact ⟨(isDig_iff2 _).2 (by omega), h3⟩
              · omega
            subst hwd1
            have e45 : (C == 45) = false := by rw [beq_eq_false_iff_ne]; omega
            have e46 : (C == 46) = false := by rw [beq_eq_false_iff_ne]; omega
            have e47 : (C == 47) = false := by rw [beq_eq_false_iff_ne]; omega
            have e48 : ¬ C < 48 := by omega
            have e57 : ¬ 57 < C := by omega
            have e48' : decide (C < 48) = false := decide_eq_false e48
            have e57' : decide (57 < C) = false := decide_eq_false e57
            go_wp2
            go_roundw
            case rel => exact ⟨pos + 1, S, mn, mk, fr, rfl, HI.out, HX.out, HB.out, hRS.out.dig hp hasc⟩
            case measure => (rw [iterPos_of (s := s) (p := pos + 1) (by first | exact HI.out | (rw [heap_set (by simp)]; exact HI.out) | (rw [heap_set (by simp), heap_set (by simp)]; exact HI.out) | (show ((W1.setCell _ _).setCell _ _).heap[_]? = _; rw [heap_set (by simp), heap_set (by simp)]; exact HI.out)), HP.out]; omega)
          · have hasc : isDig (s[pos]'hp) = false := by
              cases hh : isDig (s[pos]'hp) with
              | false => rfl
              | true =>
                have h4 := (isDig_iff2 _).1 hh
                rcases hca.2.2 with ⟨h1, h2, h3⟩ | ⟨h1, h2⟩ <;> omega
            have hne : s[pos]'hp ≠ 45 ∧ s[pos]'hp ≠ 46 ∧ s[pos]'hp ≠ 47 := by
              refine ⟨fun h => ?_, fun h => ?_, fun h => ?_⟩ <;>
              · have h4 : (s[pos]'hp).toNat = _ := congrArg UInt8.toNat h
                have h5 : (45 : UInt8).toNat = 45 ∧ (46 : UInt8).toNat = 46 ∧ (47 : UInt8).toNat = 47 := by decide
                rcases hca.2.2 with ⟨h1, h2, h3⟩ | ⟨h1, h2⟩ <;> omega
            have e45 : (C == 45) = false := by rw [beq_eq_false_iff_ne]; omega
            have e46 : (C == 46) = false := by rw [beq_eq_false_iff_ne]; omega
            have e47 : (C == 47) = false := by rw [beq_eq_false_iff_ne]; omega
            rcases Int.lt_or_le C 48 with e48 | e48
            · have e48' : decide (C < 48) = true := decide_eq_true e48
              go_wp2
              exact bodyPost_ret (v := .tuple #[.agg #[.bool false, .int .i32 0, .string ⟨#[]⟩, .string ⟨#[]⟩], .bool false]) (by simp [results, Tryz.results108, go_sem, c0, c1, c2, c3]) rfl (rdd_no (below_set (below_set (below_set (below_set HB.out 0 (Nat.le_refl _) _) 1 (Nat.le_refl _) _) 2 (Nat.le_refl _) _) 3 (Nat.le_refl _) _) (hRS.out.bad hp hasc (fun h => hne.1 h.2) (fun _ => hne.2)))
            · have e57 : 57 < C := by omega
              have e48'' : ¬ C < 48 := by omega
              have e48' : decide (C < 48) = false := decide_eq_false e48''
              have e57' : decide (57 < C) = true := decide_eq_true e57
              go_wp2
              exact bodyPost_ret (v := .tuple #[.agg #[.bool false, .int .i32 0, .string ⟨#[]⟩, .string ⟨#[]⟩], .bool false]) (by simp [results, Tryz.results108, go_sem, c0, c1, c2, c3]) rfl (rdd_no (below_set (below_set (below_set (below_set HB.out 0 (Nat.le_refl _) _) 1 (Nat.le_refl _) _) 2 (Nat.le_refl _) _) 3 (Nat.le_refl _) _) (hRS.out.bad hp hasc (fun h => hne.1 h.2) (fun _ => hne.2)))
    · have hpe : pos = s.size := by have := hR.rs.le; omega
      subst hpe
      have hit := hR.it
      have hnx : ∀ ty, (Instr.next (.pointer (some ⟨w.heap.size + 1, 0, none⟩)) true ty).run Tryz.prog wr = .ok (.tuple #[.bool false]) wr := fun ty => Lib.run_next_end_at wr (w.heap.size + 1) s s.size ty hit hp
      have HX := Lib.hid hR.box
      have HB := Lib.hid hR.below
      have hRS := Lib.hid hR.rs
      obtain ⟨c0, c1, c2, c3, f0, f1, f2, f3⟩ := hR.box
      clear hR hit hpos0
      have hsl1 : (S : Int) ≤ (s.size : Int) := by omega
      obtain ⟨X, hX⟩ : ∃ X, X = s.extract S s.size := ⟨_, rfl⟩
      have HXX := Lib.hid hX
      by_cases hm : mk = 0
      · subst hm
        by_cases hx : X = ⟨#[]⟩
        · have ex : ((s.extract S s.size).toList == []) = true := by rw [← hX, str_nil]; exact decide_eq_true hx
          have hw := hRS.out.fin0.2 (by rw [← hX]; exact hx)
          have HW := Lib.hid hw
          clear hX hw
          go_wp2
          exact bodyPost_ret (v := .tuple #[.agg #[.bool mn, .int .i32 0, .string (s.extract S s.size), .string ⟨#[]⟩], .bool false]) (by simp [results, Tryz.results108, go_sem, c0, c1, c2, c3]) rfl (rdd_no (below_set (below_set (below_set (below_set (below_set HB.out 2 (Nat.le_refl _) _) 0 (Nat.le_refl _) _) 1 (Nat.le_refl _) _) 2 (Nat.le_refl _) _) 3 (Nat.le_refl _) _) HW.out)
        · have ex : ((s.extract S s.size).toList == []) = false := by rw [← hX, str_nil]; exact decide_eq_false hx
          have hw := hRS.out.fin0.1 (by rw [← hX]; exact hx)
          have HW := Lib.hid hw
          clear hX hw
          go_wp2
          exact bodyPost_ret (v := .tuple #[.agg #[.bool mn, .int .i32 0, .string (s.extract S s.size), .string ⟨#[]⟩], .bool true]) (by simp [results, Tryz.results108, go_sem, c0, c1, c2, c3]) rfl (rdd_yes (below_set (below_set (below_set (below_set (below_set HB.out 2 (Nat.le_refl _) _) 0 (Nat.le_refl _) _) 1 (Nat.le_refl _) _) 2 (Nat.le_refl _) _) 3 (Nat.le_refl _) _) HW.out)
      · have em : (mk == 0) = false := by rw [beq_eq_false_iff_ne]; omega
        by_cases hf : fr = ⟨#[]⟩
        · have ef : (fr.toList == []) = true := by rw [str_nil]; exact decide_eq_true hf
          have hw := (hRS.out.fin1 hm).2 (.inl hf)
          have HW := Lib.hid hw
          clear hX hw hf
          go_wp2
          exact bodyPost_ret (v := .tuple #[.agg #[.bool mn, .int .i32 mk, .string fr, .string (s.extract S s.size)], .bool false]) (by simp [results, Tryz.results108, go_sem, c0, c1, c2, c3]) rfl (rdd_no (below_set (below_set (below_set (below_set (below_set HB.out 3 (Nat.le_refl _) _) 0 (Nat.le_refl _) _) 1 (Nat.le_refl _) _) 2 (Nat.le_refl _) _) 3 (Nat.le_refl _) _) HW.out)
        · have ef : (fr.toList == []) = false := by rw [str_nil]; exact decide_eq_false hf
          by_cases hx : X = ⟨#[]⟩
          · have ex : ((s.extract S s.size).toList == []) = true := by rw [← hX, str_nil]; exact decide_eq_true hx
            have hw := (hRS.out.fin1 hm).2 (.inr (by rw [← hX]; exact hx))
            have HW := Lib.hid hw
            clear hX hw
            go_wp2
            exact bodyPost_ret (v := .tuple #[.agg #[.bool mn, .int .i32 mk, .string fr, .string (s.extract S s.size)], .bool false]) (by simp [results, Tryz.results108, go_sem, c0, c1, c2, c3]) rfl (rdd_no (below_set (below_set (below_set (below_set (below_set HB.out 3 (Nat.le_refl _) _) 0 (Nat.le_refl _) _) 1 (Nat.le_refl _) _) 2 (Nat.le_refl _) _) 3 (Nat.le_refl _) _) HW.out)
          · have ex : ((s.extract S s.size).toList == []) = false := by rw [← hX, str_nil]; exact decide_eq_false hx
            have hw := (hRS.out.fin1 hm).1 hf (by rw [← hX]; exact hx)
            have HW := Lib.hid hw
            clear hX hw
            go_wp2
            exact bodyPost_ret (v := .tuple #[.agg #[.bool mn, .int .i32 mk, .string fr, .string (s.extract S s.size)], .bool true]) (by simp [results, Tryz.results108, go_sem, c0, c1, c2, c3]) rfl (rdd_yes (below_set (below_set (below_set (below_set (below_set HB.out 3 (Nat.le_refl _) _) 0 (Nat.le_refl _) _) 1 (Nat.le_refl _) _) 2 (Nat.le_refl _) _) 3 (Nat.le_refl _) _) HW.out)
end Go.Proofs.YtkhebidmfjbhaaaGreatDoor
namespace Go.Proofs.YtkhebidmfjbhaaaGreatDoor
open Go.RowKit

theorem Wb.below {W W' : World} {k : Nat} {mn : Bool} {mk : Int} {fr bk : ByteArray} (h : Wb W k mn mk fr bk) (hb : Below W.heap.size W W') : Wb W' k mn mk fr bk :=
  have hk := h.lt
  ⟨(below_at hb 0 hk).trans h.c0, (below_at hb 1 hk).trans h.c1, (below_at hb 2 hk).trans h.c2, (below_at hb 3 hk).trans h.c3, (below_atF hb 0 hk).trans h.f0, (below_atF hb 1 hk).trans h.f1, (below_atF hb 2 hk).trans h.f2, (below_atF hb 3 hk).trans h.f3⟩
theorem Wb.cells {W : World} {k : Nat} {mn : Bool} {mk : Int} {fr bk : ByteArray} (h : Wb W k mn mk fr bk) : W.cell? ⟨k, 0, none⟩ = some (.bool mn) ∧ W.cell? ⟨k, 1, none⟩ = some (.int .i32 mk) ∧ W.cell? ⟨k, 2, none⟩ = some (.string fr) ∧ W.cell? ⟨k, 3, none⟩ = some (.string bk) := ⟨h.c0, h.c1, h.c2, h.c3⟩
theorem Wb.drew {W : World} {k : Nat} {mn : Bool} {mk : Int} {fr bk : ByteArray} (h : Wb W k mn mk fr bk) : Wb W.drew k mn mk fr bk := h.kept rfl
theorem Wb.far {W : World} {k r o : Nat} {u : Value} {mn : Bool} {mk : Int} {fr bk : ByteArray} (hk : k ≠ r) (h : Wb W k mn mk fr bk) : Wb (W.setCell ⟨r, o, none⟩ u) k mn mk fr bk := h.kept (heap_set hk)
theorem St.armW {P : Program} {f : Nat} {args : Array Value} {w W : World} {R : List (Nat × Value × Value × Bool × Value × Value × Bool)} {Z : List (Nat × Value × Value × Bool)} {N : List (Value × Value × Bool × Int)} {k : Nat} {mn : Bool} {mk : Int} {fr bk : ByteArray} {Q Q' : Ending → World → Prop} (h : St w W R Z N) (g : Wb W k mn mk fr bk) (hc : St w W R Z N → Calls P f args W Q) (hk : ∀ e W', Q e W' ∧ St w W R Z N ∧ Wb W k mn mk fr bk → Q' e W') : Calls P f args W Q' :=
  (hc h).mono (fun e W' q => hk e W' ⟨q, h, g⟩)
/-- The call hands back n / d and an error's number. -/
def GivesRe (n d E : Int) (w : World) (e : Ending) (w' : World) : Prop := ∃ p v q u, e = .returned (.tuple #[.agg #[p, v, .bool (decide (n < 0)), q, u, .bool (decide (d < 0))], .int .i64 E]) ∧ NatV w' p v n.natAbs ∧ NatV w' q u d.natAbs ∧ Below w.heap.size w w'
theorem GivesR.re {n d E : Int} {w w' : World} {p v q u : Value} {b c : Bool} (h : GivesR n d w (.returned (.agg #[p, v, .bool b, q, u, .bool c])) w') : GivesRe n d E w (.returned (.tuple #[.agg #[p, v, .bool b, q, u, .bool c], .int .i64 E])) w' := by
  obtain ⟨p', v', q', u', e, h1, h2, h3⟩ := h
  injection e with e
  rw [e]
  exact ⟨p', v', q', u', rfl, h1, h2, h3⟩
/-- What Read answers. -/
def RdI (D : ByteArray) (b : Bool) (z : Int) : Prop := ∀ W, Calls Tryz.prog 154 #[.string D, .bool b] W (GivesZ z W)
theorem RdI.run {D : ByteArray} {b : Bool} {z : Int} (h : RdI D b z) (W : World) : Calls Tryz.prog 154 #[.string D, .bool b] W (GivesZ z W) := h W
/-- What quotient answers. -/
def OpQ (x y : Int) (Q : Rat) : Prop := ∀ (p v : Value) (b : Bool) (q u : Value) (c : Bool) (W : World), IntV W p v b x → IntV W q u c y → Calls Tryz.prog 116 #[.agg #[p, v, .bool b], .agg #[q, u, .bool c]] W (GivesR Q.num Q.den W)
theorem OpQ.run {x y : Int} {Q : Rat} {p v q u : Value} {b c : Bool} {W : World} (h : OpQ x y Q) (hx : IntV W p v b x) (hy : IntV W q u c y) : Calls Tryz.prog 116 #[.agg #[p, v, .bool b], .agg #[q, u, .bool c]] W (GivesR Q.num Q.den W) := h p v b q u c W hx hy
theorem OpQ.of {x y : Int} {Q : Rat} (hQ : Q = Rat.divInt x y) (h0 : y ≠ 0) (hx9 : nl x.natAbs ≤ 20000) (hy9 : nl y.natAbs ≤ 20000) : OpQ x y Q := fun p v b q u c W hx hy => by
  rw [hQ]; exact quotient_any p v b q u c x y W hx hy h0 hx9 hy9
set_option maxHeartbeats 4000000 in
set_option maxRecDepth 100000 in
theorem value_frac (mn : Bool) (mk : Int) (fr bk : ByteArray) (x y : Int) (Q : Rat) (w : World) (hm : mk = 47) (C1 : RdI bk false y) (C2 : RdI fr mn x) (hQ : Q = Rat.divInt x y) (h0 : y ≠ 0) (hx9 : nl x.natAbs ≤ 20000) (hy9 : nl y.natAbs ≤ 20000) : Calls Tryz.prog 109 #[.agg #[.bool mn, .int .i32 mk, .string fr, .string bk]] w (GivesRe Q.num Q.den 0 w) := by
  have em : (mk == 47) = true := beq_iff_eq.2 hm
  have QC := Lib.hid (OpQ.of hQ h0 hx9 hy9)
  have Z0 := Lib.hid h0
  replace C1 := Lib.hid C1
  replace C2 := Lib.hid C2
  clear hQ h0 hx9 hy9 hm
  go_enter Tryz.func109, Tryz.ntmps109
  go_wp2_with fail
  obtain ⟨W0, hW0⟩ : ∃ W0, W0 = ((w.alloc (.cells #[.bool mn, .int .i32 mk, .string fr, .string bk] 95)).alloc (.cells #[.int .u64 0, .slice none 0 0, .bool false, .int .u64 0, .slice none 0 0, .bool false] 76)) := ⟨_, rfl⟩
  have ST : St w W0 [(w.heap.size + 1, .int .u64 0, .slice none 0 0, false, .int .u64 0, .slice none 0 0, false)] [] [] := by
    rw [hW0]
    exact (St.zero.call (alloc_below w (.cells #[.bool mn, .int .i32 mk, .string fr, .string bk] 95))).allocR (k := w.heap.size + 1) (t := 76) (by first | rfl | (simp; done) | (simp; omega))
  have HX : Wb W0 w.heap.size mn mk fr bk := by
    rw [hW0]
    exact (Wb.new w mn mk fr bk 95 w.heap.size rfl).below (alloc_below _ _)
  replace ST := Lib.hid ST
  rw [← hW0]
  clear hW0
  obtain ⟨a0, a1, a2, a3⟩ := HX.cells
  replace HX := Lib.hid HX
  go_wp2_with fail
  refine St.armW (w := w) (by exact ST.out) (by exact HX.out) (by intro H; exact C1.out _) ?_
  rintro e w4 ⟨⟨p4, v4, rfl, hv4, hb4⟩, H, G⟩
  obtain ⟨r4s, hs4⟩ : ∃ sgn, sgn = decide (y < 0) := ⟨_, rfl⟩
  rw [← hs4]
  have hi := And.intro hv4 hs4
  obtain ⟨r4t, r4a, r4n, rfl, rfl, -, -, -, -, -, -⟩ := hv4.form
  replace ST := Lib.hid ((H.call hb4).know hi)
  replace HX := Lib.hid (G.below hb4)
  clear hi H G hv4 hb4 hs4
  go_upto_region 5 with fail
  obtain ⟨W4, hW⟩ : ∃ W, W = w4.alloc (.cells #[.int .u64 r4t, .slice r4a r4n r4n, .bool r4s] 74) := ⟨_, rfl⟩
  rw [← hW]
  replace ST := ST.out.alloc (p := .int .u64 r4t) (v := .slice r4a r4n r4n) (b := r4s) (t := 74) (k := w4.heap.size) (by first | rfl | (simp; done) | (simp; omega))
  replace HX := HX.out.below (alloc_below _ (.cells #[.int .u64 r4t, .slice r4a r4n r4n, .bool r4s] 74))
  rw [← hW] at ST HX
  clear hW
  replace ST := Lib.hid ST
  replace HX := Lib.hid HX
  obtain ⟨k4, hk⟩ : ∃ k, k = w4.heap.size := ⟨_, rfl⟩
  rw [← hk] at ST ⊢
  clear hk
  obtain ⟨d0, d1, d2⟩ := ST.out.num (k := k4) (by with_reducible ((repeat ((fail_if_success exact mem0); apply List.mem_cons_of_mem)); exact mem0))
  go_wp2_with fail
  refine St.armW (w := w) (by exact ST.out) (by exact HX.out) (by intro H; exact zero_not Z0.out (H.int (x := y) (by with_reducible ((repeat ((fail_if_success exact mem0); apply List.mem_cons_of_mem)); exact mem0)))) ?_
  rintro e w5 ⟨⟨rfl, hb5⟩, H, G⟩
  replace ST := Lib.hid (H.call hb5)
  replace HX := Lib.hid (G.below hb5)
  clear d0 d1 d2 hb5 H G a0 a1 a2 a3
  go_upto_region 7 with fail
  (first | clear q0 q1 q2 q3 q4 q5 q6 q7 q8 q9 q10 q11 | skip)
  obtain ⟨q0, q1, q2, q3, q4, q5, q6, q7, q8, q9, q10, q11⟩ := ST.out.rats (w.heap.size + 1, .int .u64 0, .slice none 0 0, false, .int .u64 0, .slice none 0 0, false) (by with_reducible ((repeat ((fail_if_success exact mem0); apply List.mem_cons_of_mem)); exact mem0))
  dsimp only at q0 q1 q2 q3 q4 q5 q6 q7 q8 q9 q10 q11
  go_region_held3 (fun W => (W.cell? ⟨w.heap.size, 0, none⟩ = some (.bool mn) ∧ W.cell? ⟨w.heap.size, 1, none⟩ = some (.int .i32 mk) ∧ W.cell? ⟨w.heap.size, 2, none⟩ = some (.string fr) ∧ W.cell? ⟨w.heap.size, 3, none⟩ = some (.string bk)) ∧ (W.cell? ⟨k4, 0, none⟩ = some (.int .u64 r4t) ∧ W.cell? ⟨k4, 1, none⟩ = some (.slice r4a r4n r4n) ∧ W.cell? ⟨k4, 2, none⟩ = some (.bool r4s))) (exact ⟨Wb.cells (by ((repeat (first | (with_reducible apply Wb.drew) | ((with_reducible refine Wb.far ?_ ?_); focus (omega)))); with_reducible exact HX.out)), St.num (w := w) (by ((with_reducible iterate 4 try first | apply St.drew | apply St.alloc | apply St.allocR | apply St.putR); ((with_reducible exact ST.out); all_goals (first | rfl | (simp; done) | (simp; omega))))) (by with_reducible ((repeat ((fail_if_success exact mem0); apply List.mem_cons_of_mem)); exact mem0))⟩) (first | (go_at_call 154; refine St.armW (w := w) (by ((with_reducible iterate 4 try first | apply St.drew | apply St.alloc | apply St.allocR | apply St.putR); ((with_reducible exact ST.out); all_goals (first | rfl | (simp; done) | (simp; omega))))) (by ((repeat (first | (with_reducible apply Wb.drew) | ((with_reducible refine Wb.far ?_ ?_); focus (omega)))); with_reducible exact HX.out)) (by intro H; with_reducible exact RdI.run C2.out _) ?_; rintro e w7 ⟨⟨p7, v7, rfl, hv7, hb7⟩, H, G⟩; obtain ⟨r7s, hs7⟩ : ∃ sgn, sgn = decide (x < 0) := ⟨_, rfl⟩; rw [← hs7]; have hi := And.intro hv7 hs7; obtain ⟨r7t, r7a, r7n, rfl, rfl, -, -, -, -, -, -⟩ := hv7.form; replace ST := Lib.hid ((H.call hb7).know hi); replace HX := Lib.hid (G.below hb7); clear hi H G hv7 hb7 hs7; (first | clear q0 q1 q2 q3 q4 q5 q6 q7 q8 q9 q10 q11 | skip); obtain ⟨q0, q1, q2, q3, q4, q5, q6, q7, q8, q9, q10, q11⟩ := ST.out.rats (w.heap.size + 1, .int .u64 0, .slice none 0 0, false, .int .u64 0, .slice none 0 0, false) (by with_reducible ((repeat ((fail_if_success exact mem0); apply List.mem_cons_of_mem)); exact mem0)); dsimp only at q0 q1 q2 q3 q4 q5 q6 q7 q8 q9 q10 q11) | (go_at_call 116; refine St.armW (w := w) (by ((with_reducible iterate 4 try first | apply St.drew | apply St.alloc | apply St.allocR | apply St.putR); ((with_reducible exact ST.out); all_goals (first | rfl | (simp; done) | (simp; omega))))) (by ((repeat (first | (with_reducible apply Wb.drew) | ((with_reducible refine Wb.far ?_ ?_); focus (omega)))); with_reducible exact HX.out)) (by intro H; with_reducible exact OpQ.run QC.out (H.int (by with_reducible ((repeat ((fail_if_success exact mem0); apply List.mem_cons_of_mem)); exact mem0))) (H.int (by with_reducible ((repeat ((fail_if_success exact mem0); apply List.mem_cons_of_mem)); exact mem0)))) ?_; rintro e w8 ⟨⟨p8, v8, o8, u8, rfl, hv8, hu8, hb8⟩, H, G⟩; obtain ⟨r8s, hs8⟩ : ∃ sgn, sgn = decide (Q.num < 0) := ⟨_, rfl⟩; obtain ⟨q8s, ht8⟩ : ∃ sgn, sgn = decide ((Q.den : Int) < 0) := ⟨_, rfl⟩; rw [← hs8, ← ht8]; have hi := And.intro hv8 hs8; have hj := And.intro hu8 ht8; obtain ⟨r8t, r8a, r8n, rfl, rfl, -, -, -, -, -, -⟩ := hv8.form; obtain ⟨q8t, q8a, q8n, rfl, rfl, -, -, -, -, -, -⟩ := hu8.form; replace ST := Lib.hid (((H.call hb8).know hj).know hi); replace HX := Lib.hid (G.below hb8); clear hi hj H G hv8 hu8 hb8 hs8 ht8; (first | clear q0 q1 q2 q3 q4 q5 q6 q7 q8 q9 q10 q11 | skip); obtain ⟨q0, q1, q2, q3, q4, q5, q6, q7, q8, q9, q10, q11⟩ := ST.out.rats (w.heap.size + 1, .int .u64 0, .slice none 0 0, false, .int .u64 0, .slice none 0 0, false) (by with_reducible ((repeat ((fail_if_success exact mem0); apply List.mem_cons_of_mem)); exact mem0)); dsimp only at q0 q1 q2 q3 q4 q5 q6 q7 q8 q9 q10 q11) | fail)
  all_goals
    go_wp2
    exact bodyPost_ret (v := .tuple #[.agg #[.int .u64 r8t, .slice r8a r8n r8n, .bool r8s, .int .u64 q8t, .slice q8a q8n q8n, .bool q8s], .int .i64 0]) (by simp [results, Tryz.results109, go_sem, q0, q1, q2, q3, q4, q5]) rfl (ST.out.giveR (k := w.heap.size + 1) (by with_reducible ((repeat ((fail_if_success exact mem0); apply List.mem_cons_of_mem)); exact mem0)) (by omega) (by with_reducible ((repeat ((fail_if_success exact mem0); apply List.mem_cons_of_mem)); exact mem0)) (by with_reducible ((repeat ((fail_if_success exact mem0); apply List.mem_cons_of_mem)); exact mem0))).re
set_option maxHeartbeats 4000000 in
set_option maxRecDepth 100000 in
theorem value_dec (mn : Bool) (mk : Int) (fr bk T : ByteArray) (x y : Int) (Q : Rat) (w : World) (hm : mk ≠ 47) (hf : fr.size ≤ 5000) (hk : bk.size ≤ 5000) (CR : ∀ W, Calls Tryz.prog 155 #[.string ⟨#[48]⟩, .int .i64 bk.size] W fun e w' => e = .returned (.string T) ∧ Below W.heap.size W w') (hT : T.size ≤ 5000) (C1 : RdI (⟨#[49]⟩ ++ T) false y) (C2 : RdI (fr ++ bk) mn x) (hQ : Q = Rat.divInt x y) (h0 : y ≠ 0) (hx9 : nl x.natAbs ≤ 20000) (hy9 : nl y.natAbs ≤ 20000) : Calls Tryz.prog 109 #[.agg #[.bool mn, .int .i32 mk, .string fr, .string bk]] w (GivesRe Q.num Q.den 0 w) := by
  have em : (mk == 47) = false := beq_eq_false_iff_ne.2 hm
  have QC := Lib.hid (OpQ.of hQ h0 hx9 hy9)
  have s1 : ¬ 9223372036854775807 < 1 + T.size := by omega
  have s2 : ¬ 9223372036854775807 < fr.size + bk.size := by omega
  replace C1 := Lib.hid C1
  replace C2 := Lib.hid C2
  replace CR := Lib.hid CR
  clear hQ h0 hx9 hy9 hm hf hk hT
  go_enter Tryz.func109, Tryz.ntmps109
  go_wp2_with fail
  obtain ⟨W0, hW0⟩ : ∃ W0, W0 = ((w.alloc (.cells #[.bool mn, .int .i32 mk, .string fr, .string bk] 95)).alloc (.cells #[.int .u64 0, .slice none 0 0, .bool false, .int .u64 0, .slice none 0 0, .bool false] 76)) := ⟨_, rfl⟩
  have ST : St w W0 [(w.heap.size + 1, .int .u64 0, .slice none 0 0, false, .int .u64 0, .slice none 0 0, false)] [] [] := by
    rw [hW0]
    exact (St.zero.call (alloc_below w (.cells #[.bool mn, .int .i32 mk, .string fr, .string bk] 95))).allocR (k := w.heap.size + 1) (t := 76) (by first | rfl | (simp; done) | (simp; omega))
  have HX : Wb W0 w.heap.size mn mk fr bk := by
    rw [hW0]
    exact (Wb.new w mn mk fr bk 95 w.heap.size rfl).below (alloc_below _ _)
  replace ST := Lib.hid ST
  rw [← hW0]
  clear hW0
  obtain ⟨a0, a1, a2, a3⟩ := HX.cells
  replace HX := Lib.hid HX
  go_wp2_with fail
  refine St.armW (w := w) (by exact ST.out) (by exact HX.out) (by intro H; exact CR.out _) ?_
  rintro e w3 ⟨⟨rfl, hb3⟩, H, G⟩
  replace ST := Lib.hid (H.call hb3)
  replace HX := Lib.hid (G.below hb3)
  clear hb3 H G a0 a1 a2 a3
  go_wp2_with fail
  refine St.armW (w := w) (by exact ST.out) (by exact HX.out) (by intro H; exact C1.out _) ?_
  rintro e w4 ⟨⟨p4, v4, rfl, hv4, hb4⟩, H, G⟩
  obtain ⟨r4s, hs4⟩ : ∃ sgn, sgn = decide (y < 0) := ⟨_, rfl⟩
  rw [← hs4]
  have hi := And.intro hv4 hs4
  obtain ⟨r4t, r4a, r4n, rfl, rfl, -, -, -, -, -, -⟩ := hv4.form
  replace ST := Lib.hid ((H.call hb4).know hi)
  replace HX := Lib.hid (G.below hb4)
  clear hi H G hv4 hb4 hs4
  go_upto_region 3 with fail
  obtain ⟨W4, hW⟩ : ∃ W, W = w4.alloc (.cells #[.int .u64 r4t, .slice r4a r4n r4n, .bool r4s] 74) := ⟨_, rfl⟩
  rw [← hW]
  replace ST := ST.out.alloc (p := .int .u64 r4t) (v := .slice r4a r4n r4n) (b := r4s) (t := 74) (k := w4.heap.size) (by first | rfl | (simp; done) | (simp; omega))
  replace HX := HX.out.below (alloc_below _ (.cells #[.int .u64 r4t, .slice r4a r4n r4n, .bool r4s] 74))
  rw [← hW] at ST HX
  clear hW
  replace ST := Lib.hid ST
  replace HX := Lib.hid HX
  obtain ⟨k4, hk⟩ : ∃ k, k = w4.heap.size := ⟨_, rfl⟩
  rw [← hk] at ST ⊢
  clear hk
  (first | clear q0 q1 q2 q3 q4 q5 q6 q7 q8 q9 q10 q11 | skip)
  obtain ⟨q0, q1, q2, q3, q4, q5, q6, q7, q8, q9, q10, q11⟩ := ST.out.rats (w.heap.size + 1, .int .u64 0, .slice none 0 0, false, .int .u64 0, .slice none 0 0, false) (by with_reducible ((repeat ((fail_if_success exact mem0); apply List.mem_cons_of_mem)); exact mem0))
  dsimp only at q0 q1 q2 q3 q4 q5 q6 q7 q8 q9 q10 q11
  go_region_held3 (fun W => (W.cell? ⟨w.heap.size, 0, none⟩ = some (.bool mn) ∧ W.cell? ⟨w.heap.size, 1, none⟩ = some (.int .i32 mk) ∧ W.cell? ⟨w.heap.size, 2, none⟩ = some (.string fr) ∧ W.cell? ⟨w.heap.size, 3, none⟩ = some (.string bk)) ∧ (W.cell? ⟨k4, 0, none⟩ = some (.int .u64 r4t) ∧ W.cell? ⟨k4, 1, none⟩ = some (.slice r4a r4n r4n) ∧ W.cell? ⟨k4, 2, none⟩ = some (.bool r4s))) (exact ⟨Wb.cells (by ((repeat (first | (with_reducible apply Wb.drew) | ((with_reducible refine Wb.far ?_ ?_); focus (omega)))); with_reducible exact HX.out)), St.num (w := w) (by ((with_reducible iterate 4 try first | apply St.drew | apply St.alloc | apply St.allocR | apply St.putR); ((with_reducible exact ST.out); all_goals (first | rfl | (simp; done) | (simp; omega))))) (by with_reducible ((repeat ((fail_if_success exact mem0); apply List.mem_cons_of_mem)); exact mem0))⟩) (first | (go_at_call 154; refine St.armW (w := w) (by ((with_reducible iterate 4 try first | apply St.drew | apply St.alloc | apply St.allocR | apply St.putR); ((with_reducible exact ST.out); all_goals (first | rfl | (simp; done) | (simp; omega))))) (by ((repeat (first | (with_reducible apply Wb.drew) | ((with_reducible refine Wb.far ?_ ?_); focus (omega)))); with_reducible exact HX.out)) (by intro H; with_reducible exact RdI.run C2.out _) ?_; rintro e w7 ⟨⟨p7, v7, rfl, hv7, hb7⟩, H, G⟩; obtain ⟨r7s, hs7⟩ : ∃ sgn, sgn = decide (x < 0) := ⟨_, rfl⟩; rw [← hs7]; have hi := And.intro hv7 hs7; obtain ⟨r7t, r7a, r7n, rfl, rfl, -, -, -, -, -, -⟩ := hv7.form; replace ST := Lib.hid ((H.call hb7).know hi); replace HX := Lib.hid (G.below hb7); clear hi H G hv7 hb7 hs7; (first | clear q0 q1 q2 q3 q4 q5 q6 q7 q8 q9 q10 q11 | skip); obtain ⟨q0, q1, q2, q3, q4, q5, q6, q7, q8, q9, q10, q11⟩ := ST.out.rats (w.heap.size + 1, .int .u64 0, .slice none 0 0, false, .int .u64 0, .slice none 0 0, false) (by with_reducible ((repeat ((fail_if_success exact mem0); apply List.mem_cons_of_mem)); exact mem0)); dsimp only at q0 q1 q2 q3 q4 q5 q6 q7 q8 q9 q10 q11) | (go_at_call 116; refine St.armW (w := w) (by ((with_reducible iterate 4 try first | apply St.drew | apply St.alloc | apply St.allocR | apply St.putR); ((with_reducible exact ST.out); all_goals (first | rfl | (simp; done) | (simp; omega))))) (by ((repeat (first | (with_reducible apply Wb.drew) | ((with_reducible refine Wb.far ?_ ?_); focus (omega)))); with_reducible exact HX.out)) (by intro H; with_reducible exact OpQ.run QC.out (H.int (by with_reducible ((repeat ((fail_if_success exact mem0); apply List.mem_cons_of_mem)); exact mem0))) (H.int (by with_reducible ((repeat ((fail_if_success exact mem0); apply List.mem_cons_of_mem)); exact mem0)))) ?_; rintro e w8 ⟨⟨p8, v8, o8, u8, rfl, hv8, hu8, hb8⟩, H, G⟩; obtain ⟨r8s, hs8⟩ : ∃ sgn, sgn = decide (Q.num < 0) := ⟨_, rfl⟩; obtain ⟨q8s, ht8⟩ : ∃ sgn, sgn = decide ((Q.den : Int) < 0) := ⟨_, rfl⟩; rw [← hs8, ← ht8]; have hi := And.intro hv8 hs8; have hj := And.intro hu8 ht8; obtain ⟨r8t, r8a, r8n, rfl, rfl, -, -, -, -, -, -⟩ := hv8.form; obtain ⟨q8t, q8a, q8n, rfl, rfl, -, -, -, -, -, -⟩ := hu8.form; replace ST := Lib.hid (((H.call hb8).know hj).know hi); replace HX := Lib.hid (G.below hb8); clear hi hj H G hv8 hu8 hb8 hs8 ht8; (first | clear q0 q1 q2 q3 q4 q5 q6 q7 q8 q9 q10 q11 | skip); obtain ⟨q0, q1, q2, q3, q4, q5, q6, q7, q8, q9, q10, q11⟩ := ST.out.rats (w.heap.size + 1, .int .u64 0, .slice none 0 0, false, .int .u64 0, .slice none 0 0, false) (by with_reducible ((repeat ((fail_if_success exact mem0); apply List.mem_cons_of_mem)); exact mem0)); dsimp only at q0 q1 q2 q3 q4 q5 q6 q7 q8 q9 q10 q11) | fail)
  all_goals
    go_wp2
    exact bodyPost_ret (v := .tuple #[.agg #[.int .u64 r8t, .slice r8a r8n r8n, .bool r8s, .int .u64 q8t, .slice q8a q8n q8n, .bool q8s], .int .i64 0]) (by simp [results, Tryz.results109, go_sem, q0, q1, q2, q3, q4, q5]) rfl (ST.out.giveR (k := w.heap.size + 1) (by with_reducible ((repeat ((fail_if_success exact mem0); apply List.mem_cons_of_mem)); exact mem0)) (by omega) (by with_reducible ((repeat ((fail_if_success exact mem0); apply List.mem_cons_of_mem)); exact mem0)) (by with_reducible ((repeat ((fail_if_success exact mem0); apply List.mem_cons_of_mem)); exact mem0))).re
end Go.Proofs.YtkhebidmfjbhaaaGreatDoor
