/-
  What hearNought and hear do to a hunter: as in plain words (LPure); every block but the hunter's stands as it stood.
-/
import Derived.Test.YtkalonhalhdlaaaLOne
namespace Go.Proofs.Ytkalonhalhdlaaa
open Go.RowKit

set_option maxHeartbeats 1000000 in
set_option maxRecDepth 100000 in
theorem hearNought_any (b : Nat) (h : HS) (w : World) (k : HunterAt w b h) (ok : h.ok) :
    Calls Try.prog 22 #[.pointer (some ⟨b, 0, none⟩)] w fun e w' => ∃ p cap, e = .returned (.tuple #[fv (told (noughtH h).2) p cap, .bool (noughtH h).2.isSome]) ∧ Bytes w' w.heap.size (told (noughtH h).2) p cap ∧ HunterAt w' b (noughtH h).1 ∧ Keeps (· = b) w w' := by
  have c1 := k.cellOnes
  have hb := k.lt
  have ho := ok.2.1
  have hne : w.heap.size ≠ b := by omega
  have hBl := Blank.new w
  have HBl := hide hBl
  clear hBl
  by_cases h6 : h.ones = 6
  · rw [h6] at c1
    have E1 : Hid (noughtH h = endH h) := by show noughtH h = _; unfold noughtH; rw [if_pos h6]
    clear h6
    go_enter Try.func22, Try.ntmps22
    go_wp2_with fail
    refine (endFrame_any b h _ (k.alloc _) ok).mono ?_
    rintro e V1 ⟨p, cap, rfl, hby, k1, hK1⟩
    have hBl := unhide HBl
    have hBl1 := hBl.keeps hK1 hne
    have hK2 : Keeps (· = b) w V1 := ((Keeps.refl _ w).alloc _).trans hK1
    have hlt := hBl.lt
    have hE := unhide E1
    generalize endH h = r at hby k1 hE
    have hfin := hide (bytes_put hby hlt (base := w.heap.size) (Nat.le_of_lt hlt) (.int .i64 (told r.2).1) (.slice p (told r.2).2.length cap))
    have E2 := hide hE
    clear hby hE E1 HBl hBl
    have r0 := hBl1.c0
    have r1 := hBl1.c1
    have rf := hBl1.fz
    generalize hto : told r.2 = f at hfin
    generalize hso : r.2.isSome = ok2
    have HT := hide hto
    have HSo := hide hso
    clear hto hso
    unfold fv
    go_wp2
    rw [unhide E2, unhide HT, unhide HSo]
    exact bodyPost_ret (v := .tuple #[.agg #[.int .i64 f.1, .slice p f.2.length cap], .bool ok2]) (by simp [results, Try.results22, go_sem, r0, r1]) rfl ⟨p, cap, rfl, unhide hfin, (k1.setOther hne _).setOther hne _, (hK2.setNew (Nat.le_refl _) _).setNew (Nat.le_refl _) _⟩
  have g6 : ((h.ones : Int) == 6) = false := by simp; omega
  by_cases h5 : h.ones = 5
  · have E1 : Hid (noughtH h = (h, none)) := by show noughtH h = _; unfold noughtH; rw [if_neg h6, if_pos h5]
    have g5 : ((h.ones : Int) == 5) = true := by simp; omega
    clear h5 h6
    go_enter Try.func22, Try.ntmps22
    go_wp2
    rw [unhide E1]
    exact bodyPost_ret (v := .tuple #[.agg #[.int .i64 0, .slice none 0 0], .bool false]) (by simp [results, Try.results22, go_sem]) rfl ⟨none, 0, rfl, Bytes.none _ _ _, k.alloc _, (Keeps.refl _ w).alloc _⟩
  · have E1 : Hid (noughtH h = (addH h false, none)) := by show noughtH h = _; unfold noughtH; rw [if_neg h6, if_neg h5]
    have g5 : ((h.ones : Int) == 5) = false := by simp; omega
    clear h5 h6
    go_enter Try.func22, Try.ntmps22
    go_wp2_with fail
    refine (add_any b h false 0 rfl _ (k.alloc _) ok).mono ?_
    rintro e V1 ⟨rfl, k1, hK1⟩
    have hBl1 := (unhide HBl).keeps hK1 hne
    have hK2 : Keeps (· = b) w V1 := ((Keeps.refl _ w).alloc _).trans hK1
    have r0 := hBl1.c0
    have r1 := hBl1.c1
    have rf := hBl1.fz
    go_wp2
    rw [unhide E1]
    exact bodyPost_ret (v := .tuple #[.agg #[.int .i64 0, .slice none 0 0], .bool false]) (by simp [results, Try.results22, go_sem, r0, r1]) rfl ⟨none, 0, rfl, Bytes.none _ _ _, (k1.setOther hne _).setOther hne _, (hK2.setNew (Nat.le_refl _) _).setNew (Nat.le_refl _) _⟩

set_option maxHeartbeats 1000000 in
set_option maxRecDepth 100000 in
theorem hear_one (b : Nat) (h : HS) (w : World) (k : HunterAt w b h) (ok : h.ok) :
    Calls Try.prog 16 #[.pointer (some ⟨b, 0, none⟩), .int .i32 49] w fun e w' => ∃ p cap, e = .returned (.tuple #[fv (told (hearH h true).2) p cap, .bool (hearH h true).2.isSome]) ∧ Bytes w' w.heap.size (told (hearH h true).2) p cap ∧ HunterAt w' b (hearH h true).1 ∧ Keeps (· = b) w w' := by
  have hb := k.lt
  have hne : w.heap.size ≠ b := by omega
  have hBl := Blank.new w
  have HBl := hide hBl
  clear hBl
  have E1 : Hid (hearH h true = oneH h) := by show hearH h true = _; simp [hearH]
  go_enter Try.func16, Try.ntmps16
  go_wp2_with fail
  refine (hearOne_any b h _ (k.alloc _) ok).mono ?_
  rintro e V1 ⟨p, cap, rfl, hby, k1, hK1⟩
  have hBl := unhide HBl
  have hBl1 := hBl.keeps hK1 hne
  have hK2 : Keeps (· = b) w V1 := ((Keeps.refl _ w).alloc _).trans hK1
  have hlt := hBl.lt
  have hE := unhide E1
  generalize oneH h = r at hby k1 hE
  have hfin := hide (bytes_put hby hlt (base := w.heap.size) (Nat.le_of_lt hlt) (.int .i64 (told r.2).1) (.slice p (told r.2).2.length cap))
  have E2 := hide hE
  clear hby hE E1 HBl hBl
  have r0 := hBl1.c0
  have r1 := hBl1.c1
  have rf := hBl1.fz
  generalize hto : told r.2 = f at hfin
  generalize hso : r.2.isSome = ok2
  have HT := hide hto
  have HSo := hide hso
  clear hto hso
  unfold fv
  go_wp2
  rw [unhide E2, unhide HT, unhide HSo]
  exact bodyPost_ret (v := .tuple #[.agg #[.int .i64 f.1, .slice p f.2.length cap], .bool ok2]) (by simp [results, Try.results16, go_sem, r0, r1]) rfl ⟨p, cap, rfl, unhide hfin, (k1.setOther hne _).setOther hne _, (hK2.setNew (Nat.le_refl _) _).setNew (Nat.le_refl _) _⟩

set_option maxHeartbeats 1000000 in
set_option maxRecDepth 100000 in
theorem hear_nought (b : Nat) (h : HS) (w : World) (k : HunterAt w b h) (ok : h.ok) :
    Calls Try.prog 16 #[.pointer (some ⟨b, 0, none⟩), .int .i32 48] w fun e w' => ∃ p cap, e = .returned (.tuple #[fv (told (hearH h false).2) p cap, .bool (hearH h false).2.isSome]) ∧ Bytes w' w.heap.size (told (hearH h false).2) p cap ∧ HunterAt w' b (hearH h false).1 ∧ Keeps (· = b) w w' := by
  have hb := k.lt
  have hne : w.heap.size ≠ b := by omega
  have hBl := Blank.new w
  have HBl := hide hBl
  clear hBl
  have E1 : Hid (hearH h false = ({ (noughtH h).1 with ones := 0 }, (noughtH h).2)) := by show hearH h false = _; simp [hearH]
  go_enter Try.func16, Try.ntmps16
  go_wp2_with fail
  refine (hearNought_any b h _ (k.alloc _) ok).mono ?_
  rintro e V1 ⟨p, cap, rfl, hby, k1, hK1⟩
  have hBl := unhide HBl
  have hBl1 := hBl.keeps hK1 hne
  have hK2 : Keeps (· = b) w V1 := ((Keeps.refl _ w).alloc _).trans hK1
  have hlt := hBl.lt
  have hE := unhide E1
  have hf1 := k1.cellOnes
  have hf2 := k1.frozen
  generalize noughtH h = r at hby k1 hE hf1
  have E2 := hide hE
  clear hE E1 HBl hBl
  have r0 := hBl1.c0
  have r1 := hBl1.c1
  have rf := hBl1.fz
  generalize hto : told r.2 = f at hby
  generalize hso : r.2.isSome = ok2
  have HT := hide hto
  have HSo := hide hso
  clear hto hso
  have hltV := hBl1.lt
  have hbV := k1.lt
  unfold fv
  go_wp2
  rw [unhide E2, unhide HT, unhide HSo]
  have hbB : b < (w.alloc (Obj.cells #[Value.int IntKind.i64 0, Value.slice none 0 0] 37)).heap.size := (k.alloc _).lt
  have hfin : Bytes ((((V1.setCell ⟨b, 1, none⟩ (.int .i64 0)).setCell ⟨w.heap.size, 0, none⟩ (.int .i64 f.1)).setCell ⟨w.heap.size, 1, none⟩ (.slice p f.2.length cap)).alloc (Obj.cells #[Value.int IntKind.i64 f.1, .slice p f.2.length cap] 37)) w.heap.size f p cap :=
    World.ownsRow.alloc (bytes_put (B := (w.alloc (Obj.cells #[Value.int IntKind.i64 0, Value.slice none 0 0] 37)).heap.size) (ownsRow_setCell_below hby (by exact hbB) _) hlt (base := w.heap.size) (Nat.le_of_lt hlt) _ _) _
  exact bodyPost_ret (v := .tuple #[.agg #[.int .i64 f.1, .slice p f.2.length cap], .bool ok2]) (by simp [results, Try.results16, go_sem, r0, r1, hltV]) rfl ⟨p, cap, rfl, hfin, (((k1.setOnes 0).setOther hne _).setOther hne _).alloc _, (((hK2.setB _ _).setNew (Nat.le_refl _) _).setNew (Nat.le_refl _) _).alloc _⟩
end Go.Proofs.Ytkalonhalhdlaaa
