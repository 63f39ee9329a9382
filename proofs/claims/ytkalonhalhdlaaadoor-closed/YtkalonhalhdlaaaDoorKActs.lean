/-
  What one call of acts does to the link; the link in plain words.
-/
import Derived.Test.YtkalonhalhdlaaaDoorKTakes
namespace Go.Proofs.YtkalonhalhdlaaaDoor
open Go.RowKit

/-- The link in plain words: stations, frames on their way, messages given, how many were taken, has an event been told. -/
structure Lk where
  s : Nat → St
  l : Nat → List Msg
  n : Nat → List ByteArray
  t : Nat → Nat
  en : Bool
def Lk.give (c : Nat → Cfg) (k : Lk) (i : Nat) : Lk := { k with s := giveS c k.s k.n i, n := giveN c k.s k.n i }
def Lk.hand (c : Nat → Cfg) (k : Lk) (i : Nat) (lost : Bool) : Lk := { k with s := handS c k.s k.l i lost, l := upd k.l i (k.l i).tail }
def Lk.take (c : Nat → Cfg) (k : Lk) (i : Nat) : Lk := { k with s := upd k.s i (takenS (c i) (k.s i)), t := upd k.t (1 - i) (takeL (k.s i).came (k.n (1 - i)) (k.t (1 - i))).2 }
def Lk.takeOk (k : Lk) (i : Nat) : Bool := (takeL (k.s i).came (k.n (1 - i)) (k.t (1 - i))).1
def Lk.tick (c : Nat → Cfg) (k : Lk) (i : Nat) : Lk := { k with s := upd k.s i (tickS (c i) (k.s i)) }
def Lk.busy (c : Nat → Cfg) (k : Lk) (i : Nat) (on : Bool) : Lk := { k with s := upd k.s i (busyS (c i) on (k.s i)) }
def Lk.look (k : Lk) : Lk := { k with s := lookedTo k.s 2, l := wayTo k.s k.l 2, en := endTo k.s k.en 2 }
/-- A move. -/
def Lk.move (c : Nat → Cfg) (k : Lk) (kd i : Nat) (on : Bool) : Lk :=
  if kd < 3 then k.give c i else if kd = 7 then k.hand c i true else if kd = 8 then k.take c i else if kd = 9 then k.tick c i else if kd = 10 then k.busy c i on else k.hand c i false
def Lk.moveOk (c : Nat → Cfg) (k : Lk) (kd i : Nat) : Bool :=
  if kd < 3 then (giveOk c k.s k.n i == 0 || giveOk c k.s k.n i == 7) else if kd = 7 then handOk c k.s k.l i true else if kd = 8 then k.takeOk i else if kd = 9 then true else if kd = 10 then true else handOk c k.s k.l i false
def Lk.at (k : Lk) (B : Fen) (w : World) (kb : Nat) (b : Nat → Nat) (c : Nat → Cfg) (w' : World) : Prop := LinkIs B w kb b c k.s k.l k.n k.t k.en w'
/-- All is small enough for one more move. -/
structure Lk.small (k : Lk) : Prop where
  out : ∀ i, i < 2 → (k.s i).out.length + 18 ≤ 2199023255552
  ev : ∀ i, i < 2 → (k.s i).events.length + 2 ≤ 2199023255552
  ml : ∀ i, i < 2 → ∀ m ∈ k.l i, m.length ≤ 1048576
  n : ∀ i, i < 2 → (k.n i).length ≤ 1000000
  t : ∀ i, i < 2 → k.t i ≤ 1000000

theorem LinkIs.ofK {B : Fen} {w : World} {own : Nat → Nat} {kb : Nat} {b : Nat → Nat} {c : Nat → Cfg} {s : Nat → St} {v g : Nat → Value} {l : Nat → List Msg} {n : Nat → List ByteArray} {t : Nat → Nat} {en : Bool} {w' : World} (h : KAt w' own kb b c s v g l n t en) (hl : Lo B own) (hb : Bel B w w') : LinkIs B w kb b c s l n t en w' := ⟨own, v, g, h, hl, hb⟩
theorem LinkIs.from {B : Fen} {w w1 w2 : World} {kb : Nat} {b : Nat → Nat} {c : Nat → Cfg} {s : Nat → St} {l : Nat → List Msg} {n : Nat → List ByteArray} {t : Nat → Nat} {en : Bool} (h : LinkIs B w1 kb b c s l n t en w2) (hb : Bel B w w1) : LinkIs B w kb b c s l n t en w2 := by
  obtain ⟨o, v, g, h1, h2, h3⟩ := h
  exact ⟨o, v, g, h1, h2, hb.trans h3⟩
theorem looks_at {B : Fen} {w w1 : World} {kb : Nat} {b : Nat → Nat} {c : Nat → Cfg} {k : Lk} (h : k.at B w kb b c w1) (hB : B.top ≤ w.heap.size) (hlen : ∀ i, i < 2 → (k.l i).length + (k.s i).out.length ≤ 2199023255552) :
    Calls Tryd.prog 26 #[.pointer (some ⟨kb, 0, none⟩)] w1 fun e w' => e = .returned (.bool true) ∧ k.look.at B w kb b c w' := by
  obtain ⟨own, v, g, h1, h2, h3⟩ := h
  refine (looks_link h1 h2 (Nat.le_trans hB h3.size) hlen).mono ?_
  rintro e w' ⟨rfl, own', v', h4, h5, h6⟩
  exact ⟨rfl, own', v', g, h4, h5, h3.trans h6⟩

set_option maxHeartbeats 8000000 in
set_option maxRecDepth 100000 in
theorem acts_link {B : Fen} {w0 w : World} {kb : Nat} {b : Nat → Nat} {c : Nat → Cfg} {k : Lk} (h : k.at B w0 kb b c w) (hB : B.top ≤ w0.heap.size) (hs : k.small) (mk ma mb : Int) (hk : -9223372036854775808 ≤ mk ∧ mk ≤ 9223372036854775807) (ha : -9223372036854775808 ≤ ma ∧ ma ≤ 9223372036854775807) (hb : -9223372036854775808 ≤ mb ∧ mb ≤ 9223372036854775807)
    (hlen : ∀ j, j < 2 → ((k.move c (pickN mk 11) (pickN ma 2) (pickN mb 2 == 1)).l j).length + ((k.move c (pickN mk 11) (pickN ma 2) (pickN mb 2 == 1)).s j).out.length ≤ 2199023255552) :
    Calls Tryd.prog 13 #[.pointer (some ⟨kb, 0, none⟩), .agg #[.int .i64 mk, .int .i64 ma, .int .i64 mb]] w fun e w' => e = .returned (.bool (k.moveOk c (pickN mk 11) (pickN ma 2))) ∧ (k.move c (pickN mk 11) (pickN ma 2) (pickN mb 2 == 1)).look.at B w0 kb b c w' := by
  have p1 := fun V => pick_val ma 2 V ha (by omega) (by omega)
  have p2 := fun V => pick_val mk 11 V hk (by omega) (by omega)
  have p3 := fun V => pick_val mb 2 V hb (by omega) (by omega)
  have l1 := pickN_lt ma 2 (by omega)
  have l2 := pickN_lt mk 11 (by omega)
  have l3 := pickN_lt mb 2 (by omega)
  generalize pickN ma 2 = i at *
  generalize pickN mk 11 = kd at *
  generalize pickN mb 2 = bo at *
  have hi : i < 2 := by omega
  have hci : i = 0 ∨ i = 1 := by omega
  have hiI : (i : Int) < 2 := by omega
  obtain ⟨own, v, g, h1, hlo, hbw⟩ := h
  have hBw : B.top ≤ w.heap.size := Nat.le_trans hB hbw.size
  have hlt := h1.lt
  have H1 := hide h1
  have HLO := hide hlo
  have HBW := hide hbw
  have HSM := hide hs
  have HLEN := hide hlen
  -- the move's own step, from a world with new memory alone
  have hbox : ∀ V, Below w.heap.size w V → KAt V own kb b c k.s v g k.l k.n k.t k.en ∧ B.top ≤ V.heap.size ∧ Bel B w0 V := fun V hV => ⟨h1.later hV, Nat.le_trans hBw hV.size, hbw.trans (Bel.of hV hBw)⟩
  have HBOX := hide hbox
  clear h1 hlo hbw hs hlen hbox
  have hkd : kd = 0 ∨ kd = 1 ∨ kd = 2 ∨ kd = 3 ∨ kd = 4 ∨ kd = 5 ∨ kd = 6 ∨ kd = 7 ∨ kd = 8 ∨ kd = 9 ∨ kd = 10 := by omega
  clear l1 l2 ha hk hb
  rcases hkd with rfl | rfl | rfl | rfl | rfl | rfl | rfl | rfl | rfl | rfl | rfl
  · have HMV : Hid (k.move c 0 i (bo == 1) = k.give c i) := hide rfl
    have HMO : Hid (k.moveOk c 0 i = (giveOk c k.s k.n i == 0 || giveOk c k.s k.n i == 7)) := hide rfl
    have hl9 := unhide HLEN
    rw [unhide HMV] at hl9
    have HLEN2 := hl9
    clear hl9
    have HL2 := hide HLEN2
    clear HLEN2 HLEN
    go_enter Tryd.func13, Tryd.ntmps13
    go_wp2_with fail
    refine (p1 _).mono ?_
    rintro e w1 ⟨rfl, hw1⟩
    subst hw1
    go_wp2_with fail
    refine (p2 _).mono ?_
    rintro e w1 ⟨rfl, hw1⟩
    subst hw1
    clear p1 p2
    have hX := unhide HBOX _ ((Below.refl _ w).alloc (Nat.le_refl _) (.cells #[.int .i64 mk, .int .i64 ma, .int .i64 mb] 43))
    have K2 := hide (gives_link hX.1 (unhide HLO) hX.2.1 i hi ((unhide HSM).n i hi) ((unhide HSM).out i hi))
    have HX := hide hX.2.2
    clear hX
    go_wp2_with fail
    refine (unhide K2).mono ?_
    rintro e w2 ⟨rfl, hl2⟩
    have hat : (k.give c i).at B w0 kb b c w2 := hl2.from (unhide HX)
    clear hl2 K2
    have KL := hide (looks_at hat hB (unhide HL2))
    clear hat
    go_wp2_with fail
    refine (unhide KL).mono ?_
    rintro e w3 ⟨rfl, hfin⟩
    have HR := hide hfin
    clear hfin KL
    go_wp2
    all_goals (try go_quiet (fail))
    all_goals (try go_wp2)
    all_goals go_ret
    all_goals
      rw [unhide HMV, unhide HMO]
      refine ⟨ret_bool ?_, unhide HR⟩
      first | (simp [*]; done) | (simp; omega)
  · have HMV : Hid (k.move c 1 i (bo == 1) = k.give c i) := hide rfl
    have HMO : Hid (k.moveOk c 1 i = (giveOk c k.s k.n i == 0 || giveOk c k.s k.n i == 7)) := hide rfl
    have hl9 := unhide HLEN
    rw [unhide HMV] at hl9
    have HLEN2 := hl9
    clear hl9
    have HL2 := hide HLEN2
    clear HLEN2 HLEN
    go_enter Tryd.func13, Tryd.ntmps13
    go_wp2_with fail
    refine (p1 _).mono ?_
    rintro e w1 ⟨rfl, hw1⟩
    subst hw1
    go_wp2_with fail
    refine (p2 _).mono ?_
    rintro e w1 ⟨rfl, hw1⟩
    subst hw1
    clear p1 p2
    have hX := unhide HBOX _ ((Below.refl _ w).alloc (Nat.le_refl _) (.cells #[.int .i64 mk, .int .i64 ma, .int .i64 mb] 43))
    have K2 := hide (gives_link hX.1 (unhide HLO) hX.2.1 i hi ((unhide HSM).n i hi) ((unhide HSM).out i hi))
    have HX := hide hX.2.2
    clear hX
    go_wp2_with fail
    refine (unhide K2).mono ?_
    rintro e w2 ⟨rfl, hl2⟩
    have hat : (k.give c i).at B w0 kb b c w2 := hl2.from (unhide HX)
    clear hl2 K2
    have KL := hide (looks_at hat hB (unhide HL2))
    clear hat
    go_wp2_with fail
    refine (unhide KL).mono ?_
    rintro e w3 ⟨rfl, hfin⟩
    have HR := hide hfin
    clear hfin KL
    go_wp2
    all_goals (try go_quiet (fail))
    all_goals (try go_wp2)
    all_goals go_ret
    all_goals
      rw [unhide HMV, unhide HMO]
      refine ⟨ret_bool ?_, unhide HR⟩
      first | (simp [*]; done) | (simp; omega)
  · have HMV : Hid (k.move c 2 i (bo == 1) = k.give c i) := hide rfl
    have HMO : Hid (k.moveOk c 2 i = (giveOk c k.s k.n i == 0 || giveOk c k.s k.n i == 7)) := hide rfl
    have hl9 := unhide HLEN
    rw [unhide HMV] at hl9
    have HLEN2 := hl9
    clear hl9
    have HL2 := hide HLEN2
    clear HLEN2 HLEN
    go_enter Tryd.func13, Tryd.ntmps13
    go_wp2_with fail
    refine (p1 _).mono ?_
    rintro e w1 ⟨rfl, hw1⟩
    subst hw1
    go_wp2_with fail
    refine (p2 _).mono ?_
    rintro e w1 ⟨rfl, hw1⟩
    subst hw1
    clear p1 p2
    have hX := unhide HBOX _ ((Below.refl _ w).alloc (Nat.le_refl _) (.cells #[.int .i64 mk, .int .i64 ma, .int .i64 mb] 43))
    have K2 := hide (gives_link hX.1 (unhide HLO) hX.2.1 i hi ((unhide HSM).n i hi) ((unhide HSM).out i hi))
    have HX := hide hX.2.2
    clear hX
    go_wp2_with fail
    refine (unhide K2).mono ?_
    rintro e w2 ⟨rfl, hl2⟩
    have hat : (k.give c i).at B w0 kb b c w2 := hl2.from (unhide HX)
    clear hl2 K2
    have KL := hide (looks_at hat hB (unhide HL2))
    clear hat
    go_wp2_with fail
    refine (unhide KL).mono ?_
    rintro e w3 ⟨rfl, hfin⟩
    have HR := hide hfin
    clear hfin KL
    go_wp2
    all_goals (try go_quiet (fail))
    all_goals (try go_wp2)
    all_goals go_ret
    all_goals
      rw [unhide HMV, unhide HMO]
      refine ⟨ret_bool ?_, unhide HR⟩
      first | (simp [*]; done) | (simp; omega)
  · have HMV : Hid (k.move c 3 i (bo == 1) = k.hand c i false) := hide rfl
    have HMO : Hid (k.moveOk c 3 i = handOk c k.s k.l i false) := hide rfl
    have hl9 := unhide HLEN
    rw [unhide HMV] at hl9
    have HLEN2 := hl9
    clear hl9
    have HL2 := hide HLEN2
    clear HLEN2 HLEN
    go_enter Tryd.func13, Tryd.ntmps13
    go_wp2_with fail
    refine (p1 _).mono ?_
    rintro e w1 ⟨rfl, hw1⟩
    subst hw1
    go_wp2_with fail
    refine (p2 _).mono ?_
    rintro e w1 ⟨rfl, hw1⟩
    subst hw1
    clear p1 p2
    have hX := unhide HBOX _ ((Below.refl _ w).alloc (Nat.le_refl _) (.cells #[.int .i64 mk, .int .i64 ma, .int .i64 mb] 43))
    have K2 := hide (hands_link hX.1 (unhide HLO) hX.2.1 i hi false ((unhide HSM).ml i hi) ((unhide HSM).out (1 - i) (by omega)) ((unhide HSM).ev (1 - i) (by omega)))
    have HX := hide hX.2.2
    clear hX
    go_wp2_with fail
    refine (unhide K2).mono ?_
    rintro e w2 ⟨rfl, hl2⟩
    have hat : (k.hand c i false).at B w0 kb b c w2 := hl2.from (unhide HX)
    clear hl2 K2
    have KL := hide (looks_at hat hB (unhide HL2))
    clear hat
    go_wp2_with fail
    refine (unhide KL).mono ?_
    rintro e w3 ⟨rfl, hfin⟩
    have HR := hide hfin
    clear hfin KL
    go_wp2
    all_goals (try go_quiet (fail))
    all_goals (try go_wp2)
    all_goals go_ret
    all_goals
      rw [unhide HMV, unhide HMO]
      refine ⟨ret_bool ?_, unhide HR⟩
      first | (simp [*]; done) | (simp; omega)
  · have HMV : Hid (k.move c 4 i (bo == 1) = k.hand c i false) := hide rfl
    have HMO : Hid (k.moveOk c 4 i = handOk c k.s k.l i false) := hide rfl
    have hl9 := unhide HLEN
    rw [unhide HMV] at hl9
    have HLEN2 := hl9
    clear hl9
    have HL2 := hide HLEN2
    clear HLEN2 HLEN
    go_enter Tryd.func13, Tryd.ntmps13
    go_wp2_with fail
    refine (p1 _).mono ?_
    rintro e w1 ⟨rfl, hw1⟩
    subst hw1
    go_wp2_with fail
    refine (p2 _).mono ?_
    rintro e w1 ⟨rfl, hw1⟩
    subst hw1
    clear p1 p2
    have hX := unhide HBOX _ ((Below.refl _ w).alloc (Nat.le_refl _) (.cells #[.int .i64 mk, .int .i64 ma, .int .i64 mb] 43))
    have K2 := hide (hands_link hX.1 (unhide HLO) hX.2.1 i hi false ((unhide HSM).ml i hi) ((unhide HSM).out (1 - i) (by omega)) ((unhide HSM).ev (1 - i) (by omega)))
    have HX := hide hX.2.2
    clear hX
    go_wp2_with fail
    refine (unhide K2).mono ?_
    rintro e w2 ⟨rfl, hl2⟩
    have hat : (k.hand c i false).at B w0 kb b c w2 := hl2.from (unhide HX)
    clear hl2 K2
    have KL := hide (looks_at hat hB (unhide HL2))
    clear hat
    go_wp2_with fail
    refine (unhide KL).mono ?_
    rintro e w3 ⟨rfl, hfin⟩
    have HR := hide hfin
    clear hfin KL
    go_wp2
    all_goals (try go_quiet (fail))
    all_goals (try go_wp2)
    all_goals go_ret
    all_goals
      rw [unhide HMV, unhide HMO]
      refine ⟨ret_bool ?_, unhide HR⟩
      first | (simp [*]; done) | (simp; omega)
  · have HMV : Hid (k.move c 5 i (bo == 1) = k.hand c i false) := hide rfl
    have HMO : Hid (k.moveOk c 5 i = handOk c k.s k.l i false) := hide rfl
    have hl9 := unhide HLEN
    rw [unhide HMV] at hl9
    have HLEN2 := hl9
    clear hl9
    have HL2 := hide HLEN2
    clear HLEN2 HLEN
    go_enter Tryd.func13, Tryd.ntmps13
    go_wp2_with fail
    refine (p1 _).mono ?_
    rintro e w1 ⟨rfl, hw1⟩
    subst hw1
    go_wp2_with fail
    refine (p2 _).mono ?_
    rintro e w1 ⟨rfl, hw1⟩
    subst hw1
    clear p1 p2
    have hX := unhide HBOX _ ((Below.refl _ w).alloc (Nat.le_refl _) (.cells #[.int .i64 mk, .int .i64 ma, .int .i64 mb] 43))
    have K2 := hide (hands_link hX.1 (unhide HLO) hX.2.1 i hi false ((unhide HSM).ml i hi) ((unhide HSM).out (1 - i) (by omega)) ((unhide HSM).ev (1 - i) (by omega)))
    have HX := hide hX.2.2
    clear hX
    go_wp2_with fail
    refine (unhide K2).mono ?_
    rintro e w2 ⟨rfl, hl2⟩
    have hat : (k.hand c i false).at B w0 kb b c w2 := hl2.from (unhide HX)
    clear hl2 K2
    have KL := hide (looks_at hat hB (unhide HL2))
    clear hat
    go_wp2_with fail
    refine (unhide KL).mono ?_
    rintro e w3 ⟨rfl, hfin⟩
    have HR := hide hfin
    clear hfin KL
    go_wp2
    all_goals (try go_quiet (fail))
    all_goals (try go_wp2)
    all_goals go_ret
    all_goals
      rw [unhide HMV, unhide HMO]
      refine ⟨ret_bool ?_, unhide HR⟩
      first | (simp [*]; done) | (simp; omega)
  · have HMV : Hid (k.move c 6 i (bo == 1) = k.hand c i false) := hide rfl
    have HMO : Hid (k.moveOk c 6 i = handOk c k.s k.l i false) := hide rfl
    have hl9 := unhide HLEN
    rw [unhide HMV] at hl9
    have HLEN2 := hl9
    clear hl9
    have HL2 := hide HLEN2
    clear HLEN2 HLEN
    go_enter Tryd.func13, Tryd.ntmps13
    go_wp2_with fail
    refine (p1 _).mono ?_
    rintro e w1 ⟨rfl, hw1⟩
    subst hw1
    go_wp2_with fail
    refine (p2 _).mono ?_
    rintro e w1 ⟨rfl, hw1⟩
    subst hw1
    clear p1 p2
    have hX := unhide HBOX _ ((Below.refl _ w).alloc (Nat.le_refl _) (.cells #[.int .i64 mk, .int .i64 ma, .int .i64 mb] 43))
    have K2 := hide (hands_link hX.1 (unhide HLO) hX.2.1 i hi false ((unhide HSM).ml i hi) ((unhide HSM).out (1 - i) (by omega)) ((unhide HSM).ev (1 - i) (by omega)))
    have HX := hide hX.2.2
    clear hX
    go_wp2_with fail
    refine (unhide K2).mono ?_
    rintro e w2 ⟨rfl, hl2⟩
    have hat : (k.hand c i false).at B w0 kb b c w2 := hl2.from (unhide HX)
    clear hl2 K2
    have KL := hide (looks_at hat hB (unhide HL2))
    clear hat
    go_wp2_with fail
    refine (unhide KL).mono ?_
    rintro e w3 ⟨rfl, hfin⟩
    have HR := hide hfin
    clear hfin KL
    go_wp2
    all_goals (try go_quiet (fail))
    all_goals (try go_wp2)
    all_goals go_ret
    all_goals
      rw [unhide HMV, unhide HMO]
      refine ⟨ret_bool ?_, unhide HR⟩
      first | (simp [*]; done) | (simp; omega)
  · have HMV : Hid (k.move c 7 i (bo == 1) = k.hand c i true) := hide rfl
    have HMO : Hid (k.moveOk c 7 i = handOk c k.s k.l i true) := hide rfl
    have hl9 := unhide HLEN
    rw [unhide HMV] at hl9
    have HLEN2 := hl9
    clear hl9
    have HL2 := hide HLEN2
    clear HLEN2 HLEN
    go_enter Tryd.func13, Tryd.ntmps13
    go_wp2_with fail
    refine (p1 _).mono ?_
    rintro e w1 ⟨rfl, hw1⟩
    subst hw1
    go_wp2_with fail
    refine (p2 _).mono ?_
    rintro e w1 ⟨rfl, hw1⟩
    subst hw1
    clear p1 p2
    have hX := unhide HBOX _ ((Below.refl _ w).alloc (Nat.le_refl _) (.cells #[.int .i64 mk, .int .i64 ma, .int .i64 mb] 43))
    have K2 := hide (hands_link hX.1 (unhide HLO) hX.2.1 i hi true ((unhide HSM).ml i hi) ((unhide HSM).out (1 - i) (by omega)) ((unhide HSM).ev (1 - i) (by omega)))
    have HX := hide hX.2.2
    clear hX
    go_wp2_with fail
    refine (unhide K2).mono ?_
    rintro e w2 ⟨rfl, hl2⟩
    have hat : (k.hand c i true).at B w0 kb b c w2 := hl2.from (unhide HX)
    clear hl2 K2
    have KL := hide (looks_at hat hB (unhide HL2))
    clear hat
    go_wp2_with fail
    refine (unhide KL).mono ?_
    rintro e w3 ⟨rfl, hfin⟩
    have HR := hide hfin
    clear hfin KL
    go_wp2
    all_goals (try go_quiet (fail))
    all_goals (try go_wp2)
    all_goals go_ret
    all_goals
      rw [unhide HMV, unhide HMO]
      refine ⟨ret_bool ?_, unhide HR⟩
      first | (simp [*]; done) | (simp; omega)
  · have HMV : Hid (k.move c 8 i (bo == 1) = k.take c i) := hide rfl
    have HMO : Hid (k.moveOk c 8 i = (takeL (k.s i).came (k.n (1 - i)) (k.t (1 - i))).1) := hide rfl
    have hl9 := unhide HLEN
    rw [unhide HMV] at hl9
    have HLEN2 := hl9
    clear hl9
    have HL2 := hide HLEN2
    clear HLEN2 HLEN
    go_enter Tryd.func13, Tryd.ntmps13
    go_wp2_with fail
    refine (p1 _).mono ?_
    rintro e w1 ⟨rfl, hw1⟩
    subst hw1
    go_wp2_with fail
    refine (p2 _).mono ?_
    rintro e w1 ⟨rfl, hw1⟩
    subst hw1
    clear p1 p2
    have hX := unhide HBOX _ ((Below.refl _ w).alloc (Nat.le_refl _) (.cells #[.int .i64 mk, .int .i64 ma, .int .i64 mb] 43))
    have K2 := hide (takes_link hX.1 (unhide HLO) hX.2.1 i hi ((unhide HSM).t (1 - i) (by omega)) ((unhide HSM).n (1 - i) (by omega)) ((unhide HSM).out i hi))
    have HX := hide hX.2.2
    clear hX
    go_wp2_with fail
    refine (unhide K2).mono ?_
    rintro e w2 ⟨rfl, hl2⟩
    have hat : (k.take c i).at B w0 kb b c w2 := hl2.from (unhide HX)
    clear hl2 K2
    have KL := hide (looks_at hat hB (unhide HL2))
    clear hat
    go_wp2_with fail
    refine (unhide KL).mono ?_
    rintro e w3 ⟨rfl, hfin⟩
    have HR := hide hfin
    clear hfin KL
    go_wp2
    all_goals (try go_quiet (fail))
    all_goals (try go_wp2)
    all_goals go_ret
    all_goals
      rw [unhide HMV, unhide HMO]
      refine ⟨ret_bool ?_, unhide HR⟩
      first | (simp [*]; done) | (simp; omega)
  · have HMV : Hid (k.move c 9 i (bo == 1) = k.tick c i) := hide rfl
    have HMO : Hid (k.moveOk c 9 i = true) := hide rfl
    have hl9 := unhide HLEN
    rw [unhide HMV] at hl9
    have HLEN2 := hl9
    clear hl9
    have HL2 := hide HLEN2
    clear HLEN2 HLEN
    go_enter Tryd.func13, Tryd.ntmps13
    go_wp2_with fail
    refine (p1 _).mono ?_
    rintro e w1 ⟨rfl, hw1⟩
    subst hw1
    go_wp2_with fail
    refine (p2 _).mono ?_
    rintro e w1 ⟨rfl, hw1⟩
    subst hw1
    clear p1 p2
    have hX := unhide HBOX _ ((Below.refl _ w).alloc (Nat.le_refl _) (.cells #[.int .i64 mk, .int .i64 ma, .int .i64 mb] 43))
    have cS := hX.1.cell i (x := .pointer (some ⟨b i, 0, none⟩)) (by rcases hci with rfl | rfl <;> rfl)
    obtain ⟨ch, q, cm, o, ev, qe, ce, oe, hS⟩ := hX.1.st i hi
    have k2 := tick_any hS ((unhide HSM).out i hi) ((unhide HSM).ev i hi)
    simp only [Bool.false_eq_true, if_false] at k2
    have K2 := hide k2
    have HX := hide hX
    have HOK := hide (tickS_ok hS.cok (hX.1.sok i hi))
    clear hX hS k2
    go_wp2_with fail
    refine (unhide K2).mono ?_
    rintro e w2 ⟨rfl, own2, hS2, u2⟩
    have hk2 := (unhide HX).1.called hi u2.f hS2 (unhide HOK)
    have hl2 := (unhide HLO).updF (unhide HX).2.1 u2.f
    have hat : (k.tick c i).at B w0 kb b c w2 := LinkIs.ofK hk2 hl2.1 ((unhide HX).2.2.trans hl2.2)
    clear hS2 u2 hk2 hl2 K2 HX HOK cS
    have KL := hide (looks_at hat hB (unhide HL2))
    clear hat
    go_wp2_with fail
    refine (unhide KL).mono ?_
    rintro e w3 ⟨rfl, hfin⟩
    have HR := hide hfin
    clear hfin KL
    go_wp2
    all_goals (try go_quiet (fail))
    all_goals (try go_wp2)
    all_goals go_ret
    all_goals
      rw [unhide HMV, unhide HMO]
      refine ⟨ret_bool ?_, unhide HR⟩
      first | (simp [*]; done) | (simp; omega)
  · have HMV : Hid (k.move c 10 i (bo == 1) = k.busy c i (bo == 1)) := hide rfl
    have HMO : Hid (k.moveOk c 10 i = true) := hide rfl
    have hl9 := unhide HLEN
    rw [unhide HMV] at hl9
    have HLEN2 := hl9
    clear hl9
    have HL2 := hide HLEN2
    clear HLEN2 HLEN
    go_enter Tryd.func13, Tryd.ntmps13
    go_wp2_with fail
    refine (p1 _).mono ?_
    rintro e w1 ⟨rfl, hw1⟩
    subst hw1
    go_wp2_with fail
    refine (p2 _).mono ?_
    rintro e w1 ⟨rfl, hw1⟩
    subst hw1
    clear p1 p2
    have hX := unhide HBOX _ ((Below.refl _ w).alloc (Nat.le_refl _) (.cells #[.int .i64 mk, .int .i64 ma, .int .i64 mb] 43))
    have cS := hX.1.cell i (x := .pointer (some ⟨b i, 0, none⟩)) (by rcases hci with rfl | rfl <;> rfl)
    obtain ⟨ch, q, cm, o, ev, qe, ce, oe, hS⟩ := hX.1.st i hi
    have k2 := fun V hV => busy_any (hS.later (w' := V) hV) (bo == 1) ((unhide HSM).out i hi)
    simp only [Bool.false_eq_true, if_false] at k2
    have eb : ((bo : Int) == 1) = (bo == 1) := by rw [Bool.eq_iff_iff]; simp; omega
    have K2 := hide k2
    have HX := hide hX
    have HOK := hide (busyS_ok (hX.1.sok i hi) (bo == 1))
    clear hX hS k2
    go_wp2_with fail
    go_region_with (first | (go_at_call 9; refine (p3 _).mono ?_; rintro e w1 ⟨rfl, rfl⟩) | (go_at_call 20; refine (unhide K2 _ ?_).mono ?_; (first | exact Below.refl _ _ | exact (Below.refl _ _).drew); rintro e w2 ⟨rfl, own2, hS2, u2⟩))
    all_goals
      have hk2 : KAt w2 own2 kb b c (upd k.s i (busyS (c i) (bo == 1) (k.s i))) v g k.l k.n k.t k.en := by first | exact (unhide HX).1.called hi u2.f hS2 (unhide HOK) | exact ((unhide HX).1.later ((Below.refl _ _).drew)).called hi u2.f hS2 (unhide HOK)
      have hl2 : Lo B own2 ∧ Bel B (w.alloc (.cells #[.int .i64 mk, .int .i64 ma, .int .i64 mb] 43)) w2 := by first | exact (unhide HLO).updF (unhide HX).2.1 u2.f | exact (fun q => ⟨q.1, ((Bel.refl _ _).drew).trans q.2⟩) ((unhide HLO).updF (w := (w.alloc (.cells #[.int .i64 mk, .int .i64 ma, .int .i64 mb] 43)).drew) (unhide HX).2.1 u2.f)
      have hat : (k.busy c i (bo == 1)).at B w0 kb b c w2 := LinkIs.ofK hk2 hl2.1 ((unhide HX).2.2.trans hl2.2)
      clear hS2 u2 hk2 hl2 K2 HX HOK cS
      have KL := hide (looks_at hat hB (unhide HL2))
      clear hat
      go_wp2_with fail
      refine (unhide KL).mono ?_
      rintro e w3 ⟨rfl, hfin⟩
      have HR := hide hfin
      clear hfin KL
      go_wp2
      all_goals (try go_quiet (fail))
      all_goals (try go_wp2)
      all_goals go_ret
      all_goals
        rw [unhide HMV, unhide HMO]
        refine ⟨ret_bool ?_, unhide HR⟩
        first | (simp [*]; done) | (simp; omega)
end Go.Proofs.YtkalonhalhdlaaaDoor
