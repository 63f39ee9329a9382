/-
  Feed, the program's and the reference's, of a text that holds other signs than noughts and ones: an error, and nothing turns.
-/
import Derived.Test.YtkalonhalhdlaaaGreatDoorRFeed2
import Derived.Laws.RangeAny
namespace Go.Proofs.YtkalonhalhdlaaaGreatDoor
open Go.RowKit

def isBit (x : UInt8) : Bool := x == 48 || x == 49
/-- Is a text of noughts and ones alone? -/
def BitText (s : ByteArray) : Prop := ∀ i (h : i < s.size), isBit (s[i]'h) = true
theorem bitText_txt (s : ByteArray) (h : BitText s) : ∃ bs, s = ⟨(txt bs).toArray⟩ ∧ bs.length = s.size := by
  refine ⟨s.data.toList.map (fun x => x == 49), ?_, by simp⟩
  have e : txt (s.data.toList.map (fun x => x == 49)) = s.data.toList := by
    unfold txt
    rw [List.map_map]
    apply List.ext_getElem
    · simp
    · intro i h1 h2
      have hi : i < s.size := by simpa using h2
      have q := h i hi
      have e2 : s[i]'hi = s.data.toList[i] := by simp [ByteArray.getElem_eq_getElem_data]
      rw [e2] at q
      simp only [List.getElem_map, Function.comp_apply]
      generalize s.data.toList[i] = x at q
      simp only [isBit, Bool.or_eq_true, beq_iff_eq] at q
      rcases q with rfl | rfl <;> decide
  rw [e]
theorem bitText_bad (s : ByteArray) (h : ¬ BitText s) : ∃ i, ∃ h : i < s.size, isBit (s[i]'h) = false := by
  by_cases hq : ∃ i, ∃ h : i < s.size, isBit (s[i]'h) = false
  · exact hq
  · refine absurd ?_ h
    intro i hi
    by_cases hb : isBit (s[i]'hi) = true
    · exact hb
    · exact absurd ⟨i, hi, by simpa using hb⟩ hq
theorem isBit_cases (x : UInt8) (h : isBit x = true) : x.toNat = 48 ∨ x.toNat = 49 := by
  simp only [isBit, Bool.or_eq_true, beq_iff_eq] at h
  rcases h with rfl | rfl
  · left; decide
  · right; decide
theorem isBit_not (x : UInt8) (h : isBit x = false) : x.toNat ≠ 48 ∧ x.toNat ≠ 49 := by
  simp only [isBit, Bool.or_eq_false_iff, beq_eq_false_iff_ne] at h
  exact ⟨fun e => h.1 (UInt8.toNat_inj.1 (by rw [e]; rfl)), fun e => h.2 (UInt8.toNat_inj.1 (by rw [e]; rfl))⟩

set_option maxHeartbeats 2000000 in
set_option maxRecDepth 100000 in
theorem onlyBits_bad (s : ByteArray) (w : World) (hb : ¬ BitText s) (_hs : s.size ≤ 1099511627776) :
    Calls Tryz.prog 107 #[.string s] w fun e w' => e = .returned (.bool false) ∧ Below w.heap.size w w' := by
  have HB := hide (bitText_bad s hb)
  clear hb
  go_enter Tryz.func107, Tryz.ntmps107
  go_wp2
  go_loopw [] (fun wr => ∃ (pos : Nat), pos ≤ s.size ∧ wr.heap[w.heap.size]? = some (.stringIter s pos) ∧ Below w.heap.size w wr ∧ ∃ i, ∃ h : i < s.size, pos ≤ i ∧ isBit (s[i]'h) = false) (fun wr => s.size - wr.iterPos w.heap.size)
  case atStart =>
    obtain ⟨i, h, q⟩ := unhide HB
    refine ⟨0, Nat.zero_le _, ?_, (Below.refl _ w).alloc (Nat.le_refl _) _, i, h, Nat.zero_le _, q⟩
    exact World.iter_heap w s 0
  case round =>
    obtain ⟨pos, hpos, hit, hbw, i, hi, hpi, hbad⟩ := hrel
    have hp' : pos < s.size := by omega
    by_cases hx : isBit (s[pos]'hp') = true
    · have hne : pos ≠ i := fun e => by subst e; rw [hx] at hbad; cases hbad
      have hpi' : pos + 1 ≤ i := by omega
      have HBAD := hide hbad
      have hxc := isBit_cases _ hx
      have hnx : ∀ ty, (Instr.next (.pointer (some ⟨w.heap.size, 0, none⟩)) true ty).run Tryz.prog wr = _ := fun ty => Lib.run_next_ascii_at wr w.heap.size s pos ty hit hp' (by omega)
      have hit2 := Lib.iterAt_heap wr w.heap.size s pos (pos + 1) hit
      have hbw2 := Lib.below_iterAt hbw (k := w.heap.size) (Nat.le_refl _) s (pos + 1)
      generalize (s[pos]'hp') = x at hnx hxc hx
      clear hx hbad
      rcases hxc with e | e
      · rw [e] at hnx
        go_wp2
        go_roundw
        case rel => exact ⟨pos + 1, by omega, hit2, hbw2, i, hi, hpi', unhide HBAD⟩
        case measure =>
          simp only [World.iterPos, hit2, hit]
          omega
      · rw [e] at hnx
        go_wp2
        go_roundw
        case rel => exact ⟨pos + 1, by omega, hit2, hbw2, i, hi, hpi', unhide HBAD⟩
        case measure =>
          simp only [World.iterPos, hit2, hit]
          omega
    · have hxn := isBit_not (s[pos]'hp') (by simpa using hx)
      have hr : (Utf8.decode s pos).1 ≠ 48 ∧ (Utf8.decode s pos).1 ≠ 49 := by
        by_cases h128 : (s[pos]'hp').toNat < 128
        · rw [decode_ascii s pos hp' h128]
          exact hxn
        · have := (decode_high s pos hp' (by omega)).1
          omega
      have hnx : ∀ ty, (Instr.next (.pointer (some ⟨w.heap.size, 0, none⟩)) true ty).run Tryz.prog wr = _ := fun ty => Lib.run_next_any_at wr w.heap.size s pos ty hit hp'
      have hbw2 := Lib.below_iterAt hbw (k := w.heap.size) (Nat.le_refl _) s (pos + (Utf8.decode s pos).2)
      generalize Utf8.decode s pos = r at hnx hr hbw2
      have g1 : ((r.1 : Int) != 48) = true := by simp; omega
      have g2 : ((r.1 : Int) != 49) = true := by simp; omega
      clear hx hxn hbad
      go_wp2
      go_ret
      exact ⟨rfl, hbw2⟩

set_option maxHeartbeats 2000000 in
set_option maxRecDepth 100000 in
theorem feed_bad (b : Nat) (s : ByteArray) (w : World) (hb : ¬ BitText s) (hs : s.size ≤ 1099511627776) :
    Calls Tryz.prog 68 #[.pointer (some ⟨b, 0, none⟩), .string s] w fun e w' => e = .returned (.tuple #[.slice none 0 0, .int .i64 1]) ∧ Below w.heap.size w w' := by
  have HOB := hide (onlyBits_bad s w hb hs)
  go_enter Tryz.func68, Tryz.ntmps68
  go_wp2_with fail
  refine (unhide HOB).mono ?_
  rintro e W0 ⟨rfl, hb0⟩
  go_wp2
  go_ret2
  exact ⟨rfl, hb0⟩

set_option maxHeartbeats 2000000 in
set_option maxRecDepth 100000 in
theorem refFeed_bad (b : Nat) (s : ByteArray) (w : World) (hb : ¬ BitText s) (hs : s.size ≤ 1099511627776) :
    Calls Tryz.prog 69 #[.pointer (some ⟨b, 0, none⟩), .string s] w fun e w' => e = .returned (.tuple #[.slice none 0 0, .int .i64 1]) ∧ w' = w := by
  have HB := hide (bitText_bad s hb)
  clear hb
  go_enter Tryz.func69, Tryz.ntmps69
  go_wp2
  go_loop [6] (fun v => ∃ (pos : Nat), pos ≤ s.size ∧ v = .int .i64 pos ∧ ∃ i, ∃ h : i < s.size, pos ≤ i ∧ isBit (s[i]'h) = false) (fun v => s.size - (intOf v).toNat)
  case atStart =>
    obtain ⟨i, h, q⟩ := unhide HB
    exact ⟨0, Nat.zero_le _, rfl, i, h, Nat.zero_le _, q⟩
  case round =>
    obtain ⟨pos, hpos, rfl, i, hi, hpi, hbad⟩ := hrel
    have hp' : pos < s.size := by omega
    by_cases hx : isBit (s[pos]'hp') = true
    · have hne : pos ≠ i := fun e => by subst e; rw [hx] at hbad; cases hbad
      have hpi' : pos + 1 ≤ i := by omega
      have HBAD := hide hbad
      have hxc := isBit_cases _ hx
      clear hx hbad
      rcases hxc with e | e
      · go_wp2
        go_round
        case rel => exact ⟨pos + 1, by omega, by go_num, i, hi, hpi', unhide HBAD⟩
        case measure => simp [intOf]; omega
      · go_wp2
        go_round
        case rel => exact ⟨pos + 1, by omega, by go_num, i, hi, hpi', unhide HBAD⟩
        case measure => simp [intOf]; omega
    · have hxn := isBit_not (s[pos]'hp') (by simpa using hx)
      have g1 : (((s[pos]'hp').toNat : Int) != 48) = true := by simp; omega
      have g2 : (((s[pos]'hp').toNat : Int) != 49) = true := by simp; omega
      clear hx hxn hbad
      go_wp2
      go_ret2
      exact ⟨rfl, rfl⟩
end Go.Proofs.YtkalonhalhdlaaaGreatDoor
