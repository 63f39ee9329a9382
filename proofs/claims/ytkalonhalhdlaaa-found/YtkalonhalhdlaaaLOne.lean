/-
  What the methods of a hunter do that take a bit (hearOne, hearNought, hear): as in plain words (LPure); every block but the hunter's stands as it stood.
-/
import Derived.Test.YtkalonhalhdlaaaLEnd
namespace Go.Proofs.Ytkalonhalhdlaaa
open Go.RowKit

/-- A method's own place for its first result, not yet filled. -/
def Blank (w : World) (r : Nat) : Prop := w.heap[r]? = some (.cells #[.int .i64 0, .slice none 0 0] 37 (0, 0))
theorem Blank.new (w : World) : Blank (w.alloc (.cells #[.int .i64 0, .slice none 0 0] 37)) w.heap.size := Array.getElem?_push_size
theorem Blank.lt {w : World} {r : Nat} (h : Blank w r) : r < w.heap.size := (Array.getElem?_eq_some_iff.1 h).1
theorem Blank.keeps {X : Nat → Prop} {w w' : World} {r : Nat} (h : Blank w r) (hk : Keeps X w w') (hx : ¬ X r) : Blank w' r := by
  show w'.heap[r]? = _
  rw [hk.block r h.lt hx]; exact h
theorem Blank.alloc {w : World} {r : Nat} (h : Blank w r) (o : Obj) : Blank (w.alloc o) r := by
  show (w.alloc o).heap[r]? = _
  rw [Below.heap_alloc _ _ _ h.lt]; exact h
theorem Blank.c0 {w : World} {r : Nat} (h : Blank w r) : w.cell? ⟨r, 0, none⟩ = some (.int .i64 0) := by rw [Lib.cell_of_heap h]; rfl
theorem Blank.c1 {w : World} {r : Nat} (h : Blank w r) : w.cell? ⟨r, 1, none⟩ = some (.slice none 0 0) := by rw [Lib.cell_of_heap h]; rfl
theorem Blank.fz {w : World} {r : Nat} (h : Blank w r) (i : Nat) : w.frozen? ⟨r, i, none⟩ = false := Lib.frozen_of_heap h i
theorem bytes_put {w : World} {B r : Nat} {f : Nat × List UInt8} {p : Option Addr} {cap : Nat} (h : Bytes w B f p cap) (hr : r < B) {base : Nat} (hb : base ≤ B) (u v : Value) : Bytes ((w.setCell ⟨r, 0, none⟩ u).setCell ⟨r, 1, none⟩ v) base f p cap :=
  ownsRow_mono (ownsRow_setCell_below (ownsRow_setCell_below h (by exact hr) _) (by exact hr) _) hb

set_option maxHeartbeats 1000000 in
set_option maxRecDepth 100000 in
theorem hearOne_any (b : Nat) (h : HS) (w : World) (k : HunterAt w b h) (ok : h.ok) :
    Calls Try.prog 21 #[.pointer (some ⟨b, 0, none⟩)] w fun e w' => ∃ p cap, e = .returned (.tuple #[fv (told (oneH h).2) p cap, .bool (oneH h).2.isSome]) ∧ Bytes w' w.heap.size (told (oneH h).2) p cap ∧ HunterAt w' b (oneH h).1 ∧ Keeps (· = b) w w' := by
  have c1 := k.cellOnes
  have f0 := k.frozen
  have hb := k.lt
  have ho := ok.2.1
  have okU := upH_ok h ok
  have hne : w.heap.size ≠ b := by omega
  by_cases h7 : h.ones = 7
  · rw [h7] at c1
    have hup : upH h = { h with ones := 7 } := by simp [upH, h7]
    have E1 : Hid (oneH h = abortH { h with ones := 7 }) := by show oneH h = _; unfold oneH one2H; rw [hup]; simp
    have kU : HunterAt w b { h with ones := 7 } := by rw [← h7]; exact k
    have HU := hide kU
    clear kU
    clear hup h7
    go_enter Try.func21, Try.ntmps21
    go_wp2_with fail
    have kU := unhide HU
    have hKU : Keeps (· = b) w w := Keeps.refl _ _
    have hBl := Blank.new w
    clear HU c1 f0
    refine (abort_any b { h with ones := 7 } _ (kU.alloc _)).mono ?_
    rintro e V1 ⟨p, cap, rfl, hby, k1, hK1⟩
    have hBl1 := hBl.keeps hK1 hne
    have hK2 : Keeps (· = b) w V1 := (hKU.alloc _).trans hK1
    have hlt := hBl.lt
    have hE := unhide E1
    generalize abortH { h with ones := 7 } = r at hby k1 hE
    have hfin := hide (bytes_put hby hlt (base := w.heap.size) (Nat.le_of_lt hlt) (.int .i64 (told r.2).1) (.slice p (told r.2).2.length cap))
    have E2 := hide hE
    clear hby hE E1
    have r0 := hBl1.c0
    have r1 := hBl1.c1
    have rf := hBl1.fz
    generalize hto : told r.2 = f at hfin
    generalize hso : r.2.isSome = ok2
    have HT := hide hto
    have HSo := hide hso
    clear hto hso
    unfold fv
    go_wp2
    rw [unhide E2, unhide HT, unhide HSo]
    exact bodyPost_ret (v := .tuple #[.agg #[.int .i64 f.1, .slice p f.2.length cap], .bool ok2]) (by simp [results, Try.results21, go_sem, r0, r1]) rfl ⟨p, cap, rfl, unhide hfin, (k1.setOther hne _).setOther hne _, (hK2.setNew (Nat.le_refl _) _).setNew (Nat.le_refl _) _⟩
  by_cases h6 : h.ones = 6
  · rw [h6] at c1
    have hup : upH h = { h with ones := 7 } := by simp [upH, h6]
    have E1 : Hid (oneH h = abortH { h with ones := 7 }) := by show oneH h = _; unfold oneH one2H; rw [hup]; simp
    have kU : HunterAt (w.setCell ⟨b, 1, none⟩ (.int .i64 7)) b { h with ones := 7 } := k.setOnes 7
    have hKU : Keeps (· = b) w (w.setCell ⟨b, 1, none⟩ (.int .i64 7)) := (Keeps.refl _ w).setB _ _
    have hsz : (w.setCell ⟨b, 1, none⟩ (.int .i64 7)).heap.size = w.heap.size := by simp [World.setCell]
    have HU := hide kU
    have HKU := hide hKU
    have HSZ := hide hsz
    clear kU hKU hsz
    clear hup h6
    go_enter Try.func21, Try.ntmps21
    go_wp2_with fail
    have kU := unhide HU
    have hKU := unhide HKU
    have hsz := unhide HSZ
    clear HU HKU HSZ c1 f0
    generalize (w.setCell ⟨b, 1, none⟩ (.int .i64 7)) = U at kU hKU hsz
    have hBl : Blank (U.alloc (.cells #[.int .i64 0, .slice none 0 0] 37)) w.heap.size := by rw [← hsz]; exact Blank.new U
    refine (abort_any b { h with ones := 7 } _ (kU.alloc _)).mono ?_
    rintro e V1 ⟨p, cap, rfl, hby, k1, hK1⟩
    have hBl1 := hBl.keeps hK1 hne
    have hK2 : Keeps (· = b) w V1 := (hKU.alloc _).trans hK1
    have hlt := hBl.lt
    have hE := unhide E1
    generalize abortH { h with ones := 7 } = r at hby k1 hE
    have hfin := hide (bytes_put hby hlt (base := w.heap.size) (Nat.le_of_lt hlt) (.int .i64 (told r.2).1) (.slice p (told r.2).2.length cap))
    have E2 := hide hE
    clear hby hE E1
    have r0 := hBl1.c0
    have r1 := hBl1.c1
    have rf := hBl1.fz
    generalize hto : told r.2 = f at hfin
    generalize hso : r.2.isSome = ok2
    have HT := hide hto
    have HSo := hide hso
    clear hto hso
    unfold fv
    go_wp2
    rw [unhide E2, unhide HT, unhide HSo]
    exact bodyPost_ret (v := .tuple #[.agg #[.int .i64 f.1, .slice p f.2.length cap], .bool ok2]) (by simp [results, Try.results21, go_sem, r0, r1]) rfl ⟨p, cap, rfl, unhide hfin, (k1.setOther hne _).setOther hne _, (hK2.setNew (Nat.le_refl _) _).setNew (Nat.le_refl _) _⟩
  have hup : upH h = { h with ones := h.ones + 1 } := by unfold upH; rw [if_pos (by omega)]
  have g7 : ((h.ones : Int) + 1 == 7) = false := by simp; omega
  have g8 : (h.ones : Int) < 7 := by omega
  have kU : HunterAt (w.setCell ⟨b, 1, none⟩ (.int .i64 ((h.ones : Int) + 1))) b { h with ones := h.ones + 1 } := k.setOnes (h.ones + 1)
  have hKU : Keeps (· = b) w (w.setCell ⟨b, 1, none⟩ (.int .i64 ((h.ones : Int) + 1))) := (Keeps.refl _ w).setB _ _
  have hsz : (w.setCell ⟨b, 1, none⟩ (.int .i64 ((h.ones : Int) + 1))).heap.size = w.heap.size := by simp [World.setCell]
  have HU := hide kU
  have HKU := hide hKU
  have HSZ := hide hsz
  clear kU hKU hsz
  by_cases h5 : h.ones = 5
  · have E1 : Hid (oneH h = ({ h with ones := h.ones + 1 }, none)) := by show oneH h = _; unfold oneH one2H; rw [hup]; simp [h5]
    have g5 : ¬ (h.ones : Int) + 1 ≤ 5 := by omega
    clear hup h5 h6 h7
    go_enter Try.func21, Try.ntmps21
    go_wp2
    have kU := unhide HU
    have hKU := unhide HKU
    rw [unhide E1]
    exact bodyPost_ret (v := .tuple #[.agg #[.int .i64 0, .slice none 0 0], .bool false]) (by simp [results, Try.results21, go_sem]) rfl ⟨none, 0, rfl, Bytes.none _ _ _, kU.alloc _, hKU.alloc _⟩
  · have E1 : Hid (oneH h = (addH { h with ones := h.ones + 1 } true, none)) := by
      show oneH h = _; unfold oneH one2H; rw [hup]
      have a1 : ¬ h.ones + 1 = 7 := by omega
      have a2 : h.ones + 1 ≤ 5 := by omega
      simp only [if_neg a1, if_pos a2]
    have g5 : (h.ones : Int) + 1 ≤ 5 := by omega
    have okU2 : HS.ok { h with ones := h.ones + 1 } := by rw [← hup]; exact okU
    clear hup h5 h6 h7
    go_enter Try.func21, Try.ntmps21
    go_wp2_with fail
    have kU := unhide HU
    have hKU := unhide HKU
    have hsz := unhide HSZ
    clear HU HKU HSZ c1 f0
    generalize (w.setCell ⟨b, 1, none⟩ (.int .i64 ((h.ones : Int) + 1))) = U at kU hKU hsz
    have hBl : Blank (U.alloc (.cells #[.int .i64 0, .slice none 0 0] 37)) w.heap.size := by rw [← hsz]; exact Blank.new U
    refine (add_any b { h with ones := h.ones + 1 } true 1 rfl _ (kU.alloc _) okU2).mono ?_
    rintro e V1 ⟨rfl, k1, hK1⟩
    have hBl1 := hBl.keeps hK1 hne
    have hK2 : Keeps (· = b) w V1 := (hKU.alloc _).trans hK1
    have r0 := hBl1.c0
    have r1 := hBl1.c1
    have rf := hBl1.fz
    go_wp2
    rw [unhide E1]
    exact bodyPost_ret (v := .tuple #[.agg #[.int .i64 0, .slice none 0 0], .bool false]) (by simp [results, Try.results21, go_sem, r0, r1]) rfl ⟨none, 0, rfl, Bytes.none _ _ _, (k1.setOther hne _).setOther hne _, (hK2.setNew (Nat.le_refl _) _).setNew (Nat.le_refl _) _⟩
end Go.Proofs.Ytkalonhalhdlaaa
