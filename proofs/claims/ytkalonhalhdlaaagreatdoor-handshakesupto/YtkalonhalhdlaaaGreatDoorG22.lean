import Derived.Test.YtkalonhalhdlaaaGreatDoorGRead2
import Derived.Test.YtkalonhalhdlaaaGreatDoorTUp4
import Derived.Test.YtkalonhalhdlaaaGreatDoorG06
import Derived.Test.YtkalonhalhdlaaaGreatDoorTPump
/-
  What one call of the document's own Read does, at whatever bytes.
-/
namespace Go.Proofs.YtkalonhalhdlaaaGreatDoor
open Go.RowKit
/-- The document's own Read, at whatever bytes. -/
theorem refRead_any (m : Int) (p : Option Addr) (c : Nat) (l : List UInt8) (w : World) (hsrc : SrcIs w p l) (hl : l.length ≤ 1048576) (hc : l.length ≤ c) :
    Calls Tryz.prog 36 #[.int .i64 m, .slice p l.length c] w fun e w' => ∃ q cp, e = .returned (.tuple #[.agg #[.int .i64 (readL m l).2.a, .int .i64 (readL m l).2.k, .bool (readL m l).2.p, .int .i64 (readL m l).2.ns, .int .i64 (readL m l).2.nr, .slice q (readL m l).2.info.length cp], .int .i64 ((readL m l).1 : Nat)]) ∧ w'.ownsRow w.heap.size 5 1 (.slice q (readL m l).2.info.length cp) (readL m l).2.info.length (Lib.byteCells (readL m l).2.info) ∧ ((readL m l).1 ≠ 0 → q = none) ∧ Below w.heap.size w w' := by
  have fin : ∀ (e : Nat), e ≠ 0 → readL m l = (e, frNone) → (Calls Tryz.prog 36 #[.int .i64 m, .slice p l.length c] w fun r w' => r = .returned (.tuple #[frZ, .int .i64 (e : Nat)]) ∧ Below w.heap.size w w') → Calls Tryz.prog 36 #[.int .i64 m, .slice p l.length c] w fun e w' => ∃ q cp, e = .returned (.tuple #[.agg #[.int .i64 (readL m l).2.a, .int .i64 (readL m l).2.k, .bool (readL m l).2.p, .int .i64 (readL m l).2.ns, .int .i64 (readL m l).2.nr, .slice q (readL m l).2.info.length cp], .int .i64 ((readL m l).1 : Nat)]) ∧ w'.ownsRow w.heap.size 5 1 (.slice q (readL m l).2.info.length cp) (readL m l).2.info.length (Lib.byteCells (readL m l).2.info) ∧ ((readL m l).1 ≠ 0 → q = none) ∧ Below w.heap.size w w' := by
    intro e _ he hcall
    rw [he]
    refine hcall.mono ?_
    rintro r w' ⟨rfl, hb⟩
    exact ⟨none, 0, rfl, World.ownsRow_nil _ _ _ _, fun _ => rfl, hb⟩
  cases hm : isMod m with
  | false => exact fin 1 (by omega) (by simp [readL, kindL, hm]) (refRead_mod m _ w hm)
  | true =>
    match l, hsrc, hl, hc, fin with
    | [], hsrc, hl, hc, fin => exact fin 2 (by omega) (by simp [readL, kindL, hm]) (refRead_nil m p c w hm)
    | x :: r, .inl h, _, _, _ => exact absurd h.2 (by simp)
    | x :: r, .inr ⟨b, off, hp, hb, hseg⟩, hl, hc, fin =>
      subst hp
      have hx := hseg 0 (by simp)
      simp only [Nat.add_zero, List.getD_cons_zero] at hx
      cases ha : isAddr x.toNat with
      | false => exact fin 3 (by omega) (by simp [readL, kindL, hm, ha]) (refRead_addr m b off _ c x w hm (by simp) hx hb ha)
      | true =>
        match r, hseg, hl, hc, fin with
        | [], hseg, hl, hc, fin => exact fin 2 (by omega) (by simp [readL, kindL, hm, ha]) (refRead_one m b off c x w hm hx hb ha)
        | y :: r, hseg, hl, hc, fin =>
          obtain ⟨m', rfl, hm'⟩ := isMod_nat hm
          exact refRead_two m' b off c x y r w hm' ha hseg hb (by simp at hl; omega) (by simpa using hc)
end Go.Proofs.YtkalonhalhdlaaaGreatDoor

/-
  What Hear of the document's station does.
-/
namespace Go.Proofs.YtkalonhalhdlaaaGreatDoor
open Go.RowKit
section
variable {w : World} {own : Nat → Nat} {i b : Nat} {c : Cfg} {s : St} {cl : Bool} {q cm o ev : Value} {ce oe : List Value}
theorem TAt.ans (h : TAt w own i b c s cl q cm o ev ce oe) (n : Nat) {w' : World} (hb : Below w.heap.size w w') : TAns n i b c s cl own w (.returned (.int .i64 n)) w' := ⟨rfl, own, ⟨_, _, _, _, _, _, h.later hb⟩, (Upd.refl i own w').of hb⟩
theorem readL_kind (m : Int) (l : List UInt8) (h : (readL m l).1 = 0) : 1 ≤ (readL m l).2.k ∧ (readL m l).2.k ≤ 9 := by
  have hk : (kindL m l).2 = 0 → 1 ≤ (kindL m l).1 ∧ (kindL m l).1 ≤ 9 := by
    intro h0
    unfold kindL at h0 ⊢
    split
    · rename_i hm
      rw [if_pos hm] at h0
      cases h0
    · rename_i hm
      rw [if_neg hm] at h0
      cases l with
      | nil => cases h0
      | cons a r =>
        simp only at h0 ⊢
        split
        · rename_i ha
          rw [if_pos ha] at h0
          cases h0
        · rename_i ha
          rw [if_neg ha] at h0
          cases r with
          | nil => cases h0
          | cons y t =>
            simp only at h0 ⊢
            cases hf : kindFrom m.toNat y.toNat 1 9 with
            | none => rw [hf] at h0; cases h0
            | some k =>
              have := kindFrom_some hf
              simp only
              omega
  unfold readL at h ⊢
  simp only at h ⊢
  split
  · rename_i h1
    rw [if_pos h1] at h
    exact absurd h h1
  · rename_i h1
    rw [if_neg h1] at h
    split
    · rename_i h2
      rw [if_pos h2] at h
      cases h
    · rename_i h2
      rw [if_neg h2] at h
      split
      · rename_i h3
        rw [if_pos h3] at h
        cases h
      · have h4 := hk (by simpa using h1)
        have e : (ctlF m.toNat (kindL m l).1 (l.drop 1)).k = (((kindL m l).1 : Nat) : Int) := by
          unfold ctlF
          simp only
          repeat' split
          all_goals rfl
        simp only [e]
        omega
set_option maxHeartbeats 4000000 in
set_option maxRecDepth 100000 in
theorem thear_closed (h : TAt w own i b c s true q cm o ev ce oe) (v : Value) :
    Calls Tryz.prog 94 #[.pointer (some ⟨b, 0, none⟩), v] w fun e w' => TAns 8 i b c s true own w e w' := by
  have c21 : w.cell? ⟨b, 21, none⟩ = some (.bool true) := h.cell 21 rfl
  have hlt := h.lt
  have HE := hide (h.ans 8 (Below.refl _ w))
  clear h
  go_enter Tryz.func94, Tryz.ntmps94
  go_wp2
  go_ret
  exact unhide HE
set_option maxHeartbeats 4000000 in
set_option maxRecDepth 100000 in
theorem thear_err (h : TAt w own i b c s false q cm o ev ce oe) (p : Option Addr) (cp : Nat) (l : List UInt8) (hsrc : SrcIs w p l) (hll : l.length ≤ 1048576) (hcp : l.length ≤ cp) (he : (readL c.m l).1 ≠ 0) :
    Calls Tryz.prog 94 #[.pointer (some ⟨b, 0, none⟩), .slice p l.length cp] w fun e w' => TAns (readL c.m l).1 i b c s false own w e w' := by
  have c21 : w.cell? ⟨b, 21, none⟩ = some (.bool false) := h.cell 21 rfl
  have c0 : w.cell? ⟨b, 0, none⟩ = some (.int .i64 c.m) := h.cell 0 rfl
  have hlt := h.lt
  have K1 := hide (refRead_any c.m p cp l w hsrc hll hcp)
  have HE := hide fun (w' : World) (hb : Below w.heap.size w w') => h.ans (readL c.m l).1 hb
  have hneI : (((readL c.m l).1 : Nat) : Int) ≠ 0 := by omega
  have hne2 : ((((readL c.m l).1 : Nat) : Int) == 0) = false := by simp; exact he
  clear h hsrc he
  go_enter Tryz.func94, Tryz.ntmps94
  go_wp2_with fail
  refine (unhide K1).mono ?_
  rintro e w1 ⟨q1, cp1, rfl, _, _, hb1⟩
  have HF := hide fun o => unhide HE _ (hb1.alloc hb1.size o)
  clear K1 HE hb1 c21 c0
  generalize hre : (readL c.m l).1 = er at *
  generalize (readL c.m l).2 = fr at *
  obtain ⟨fa, fk, fp, fns, fnr, info⟩ := fr
  have HRE := hide hre
  clear hre
  go_wp2
  go_ret
  rw [unhide HRE]
  exact unhide HF _
set_option maxHeartbeats 4000000 in
set_option maxRecDepth 100000 in
theorem thear_no1 (h : TAt w own i b c s false q cm o ev ce oe) (p : Option Addr) (cp : Nat) (l : List UInt8) (fa : Int) (fp : Bool) (fns fnr : Int) (info : Msg) (hsrc : SrcIs w p l) (hll : l.length ≤ 1048576) (hcp : l.length ≤ cp) (hrd : readL c.m l = (0, ⟨fa, 1, fp, fns, fnr, info⟩)) (hcmd : (fa == (c.addr : Int)) = false) :
    Calls Tryz.prog 94 #[.pointer (some ⟨b, 0, none⟩), .slice p l.length cp] w fun e w' => TAns 0 i b c s false own w e w' := by
  have c21 : w.cell? ⟨b, 21, none⟩ = some (.bool false) := h.cell 21 rfl
  have c0 : w.cell? ⟨b, 0, none⟩ = some (.int .i64 c.m) := h.cell 0 rfl
  have hlt := h.lt
  have k1 := refRead_any c.m p cp l w hsrc hll hcp
  rw [hrd] at k1
  have K1 := hide k1
  have H := hide h
  clear h hsrc hrd k1
  go_enter Tryz.func94, Tryz.ntmps94
  go_wp2_with fail
  refine (unhide K1).mono ?_
  rintro e w1 ⟨q1, cp1, rfl, _, _, hb1⟩
  have h1 := (unhide H).later hb1
  have c5 : w1.cell? ⟨b, 5, none⟩ = some (.int .i64 c.addr) := h1.cell 5 rfl
  have hlt1 := h1.lt
  have HF := hide fun n x => (unhide H).ans 0 (below_drewN (hb1.alloc hb1.size x) n)
  clear K1 H h1 hb1 c21 c0
  go_wp2_with fail
  go_quiet (fail)
  go_wp2
  go_ret
  exact unhide HF _ _
set_option maxHeartbeats 4000000 in
set_option maxRecDepth 100000 in
theorem thear_no5 (h : TAt w own i b c s false q cm o ev ce oe) (p : Option Addr) (cp : Nat) (l : List UInt8) (fa : Int) (fp : Bool) (fns fnr : Int) (info : Msg) (hsrc : SrcIs w p l) (hll : l.length ≤ 1048576) (hcp : l.length ≤ cp) (hrd : readL c.m l = (0, ⟨fa, 5, fp, fns, fnr, info⟩)) (hcmd : (fa == (c.addr : Int)) = false) :
    Calls Tryz.prog 94 #[.pointer (some ⟨b, 0, none⟩), .slice p l.length cp] w fun e w' => TAns 0 i b c s false own w e w' := by
  have c21 : w.cell? ⟨b, 21, none⟩ = some (.bool false) := h.cell 21 rfl
  have c0 : w.cell? ⟨b, 0, none⟩ = some (.int .i64 c.m) := h.cell 0 rfl
  have hlt := h.lt
  have k1 := refRead_any c.m p cp l w hsrc hll hcp
  rw [hrd] at k1
  have K1 := hide k1
  have H := hide h
  clear h hsrc hrd k1
  go_enter Tryz.func94, Tryz.ntmps94
  go_wp2_with fail
  refine (unhide K1).mono ?_
  rintro e w1 ⟨q1, cp1, rfl, _, _, hb1⟩
  have h1 := (unhide H).later hb1
  have c5 : w1.cell? ⟨b, 5, none⟩ = some (.int .i64 c.addr) := h1.cell 5 rfl
  have hlt1 := h1.lt
  have HF := hide fun n x => (unhide H).ans 0 (below_drewN (hb1.alloc hb1.size x) n)
  clear K1 H h1 hb1 c21 c0
  go_wp2_with fail
  go_quiet (fail)
  go_wp2
  go_ret
  exact unhide HF _ _
set_option maxHeartbeats 4000000 in
set_option maxRecDepth 100000 in
theorem thear_no6 (h : TAt w own i b c s false q cm o ev ce oe) (p : Option Addr) (cp : Nat) (l : List UInt8) (fa : Int) (fp : Bool) (fns fnr : Int) (info : Msg) (hsrc : SrcIs w p l) (hll : l.length ≤ 1048576) (hcp : l.length ≤ cp) (hrd : readL c.m l = (0, ⟨fa, 6, fp, fns, fnr, info⟩)) (hcmd : (fa == (c.addr : Int)) = false) :
    Calls Tryz.prog 94 #[.pointer (some ⟨b, 0, none⟩), .slice p l.length cp] w fun e w' => TAns 0 i b c s false own w e w' := by
  have c21 : w.cell? ⟨b, 21, none⟩ = some (.bool false) := h.cell 21 rfl
  have c0 : w.cell? ⟨b, 0, none⟩ = some (.int .i64 c.m) := h.cell 0 rfl
  have hlt := h.lt
  have k1 := refRead_any c.m p cp l w hsrc hll hcp
  rw [hrd] at k1
  have K1 := hide k1
  have H := hide h
  clear h hsrc hrd k1
  go_enter Tryz.func94, Tryz.ntmps94
  go_wp2_with fail
  refine (unhide K1).mono ?_
  rintro e w1 ⟨q1, cp1, rfl, _, _, hb1⟩
  have h1 := (unhide H).later hb1
  have c5 : w1.cell? ⟨b, 5, none⟩ = some (.int .i64 c.addr) := h1.cell 5 rfl
  have hlt1 := h1.lt
  have HF := hide fun n x => (unhide H).ans 0 (below_drewN (hb1.alloc hb1.size x) n)
  clear K1 H h1 hb1 c21 c0
  go_wp2_with fail
  go_quiet (fail)
  go_wp2
  go_ret
  exact unhide HF _ _
set_option maxHeartbeats 4000000 in
set_option maxRecDepth 100000 in
theorem thear_no7 (h : TAt w own i b c s false q cm o ev ce oe) (p : Option Addr) (cp : Nat) (l : List UInt8) (fa : Int) (fp : Bool) (fns fnr : Int) (info : Msg) (hsrc : SrcIs w p l) (hll : l.length ≤ 1048576) (hcp : l.length ≤ cp) (hrd : readL c.m l = (0, ⟨fa, 7, fp, fns, fnr, info⟩)) (hcmd : (fa == (c.addr : Int)) = true) :
    Calls Tryz.prog 94 #[.pointer (some ⟨b, 0, none⟩), .slice p l.length cp] w fun e w' => TAns 0 i b c s false own w e w' := by
  have c21 : w.cell? ⟨b, 21, none⟩ = some (.bool false) := h.cell 21 rfl
  have c0 : w.cell? ⟨b, 0, none⟩ = some (.int .i64 c.m) := h.cell 0 rfl
  have hlt := h.lt
  have k1 := refRead_any c.m p cp l w hsrc hll hcp
  rw [hrd] at k1
  have K1 := hide k1
  have H := hide h
  clear h hsrc hrd k1
  go_enter Tryz.func94, Tryz.ntmps94
  go_wp2_with fail
  refine (unhide K1).mono ?_
  rintro e w1 ⟨q1, cp1, rfl, _, _, hb1⟩
  have h1 := (unhide H).later hb1
  have c5 : w1.cell? ⟨b, 5, none⟩ = some (.int .i64 c.addr) := h1.cell 5 rfl
  have hlt1 := h1.lt
  have HF := hide fun n x => (unhide H).ans 0 (below_drewN (hb1.alloc hb1.size x) n)
  clear K1 H h1 hb1 c21 c0
  go_wp2_with fail
  go_quiet (fail)
  go_wp2
  go_ret
  exact unhide HF _ _
set_option maxHeartbeats 4000000 in
set_option maxRecDepth 100000 in
theorem thear_no8 (h : TAt w own i b c s false q cm o ev ce oe) (p : Option Addr) (cp : Nat) (l : List UInt8) (fa : Int) (fp : Bool) (fns fnr : Int) (info : Msg) (hsrc : SrcIs w p l) (hll : l.length ≤ 1048576) (hcp : l.length ≤ cp) (hrd : readL c.m l = (0, ⟨fa, 8, fp, fns, fnr, info⟩)) (hcmd : (fa == (c.addr : Int)) = true) :
    Calls Tryz.prog 94 #[.pointer (some ⟨b, 0, none⟩), .slice p l.length cp] w fun e w' => TAns 0 i b c s false own w e w' := by
  have c21 : w.cell? ⟨b, 21, none⟩ = some (.bool false) := h.cell 21 rfl
  have c0 : w.cell? ⟨b, 0, none⟩ = some (.int .i64 c.m) := h.cell 0 rfl
  have hlt := h.lt
  have k1 := refRead_any c.m p cp l w hsrc hll hcp
  rw [hrd] at k1
  have K1 := hide k1
  have H := hide h
  clear h hsrc hrd k1
  go_enter Tryz.func94, Tryz.ntmps94
  go_wp2_with fail
  refine (unhide K1).mono ?_
  rintro e w1 ⟨q1, cp1, rfl, _, _, hb1⟩
  have h1 := (unhide H).later hb1
  have c5 : w1.cell? ⟨b, 5, none⟩ = some (.int .i64 c.addr) := h1.cell 5 rfl
  have hlt1 := h1.lt
  have HF := hide fun n x => (unhide H).ans 0 (below_drewN (hb1.alloc hb1.size x) n)
  clear K1 H h1 hb1 c21 c0
  go_wp2_with fail
  go_quiet (fail)
  go_wp2
  go_ret
  exact unhide HF _ _
set_option maxHeartbeats 4000000 in
set_option maxRecDepth 100000 in
theorem thear_no9 (h : TAt w own i b c s false q cm o ev ce oe) (p : Option Addr) (cp : Nat) (l : List UInt8) (fa : Int) (fp : Bool) (fns fnr : Int) (info : Msg) (hsrc : SrcIs w p l) (hll : l.length ≤ 1048576) (hcp : l.length ≤ cp) (hrd : readL c.m l = (0, ⟨fa, 9, fp, fns, fnr, info⟩)) (hcmd : (fa == (c.addr : Int)) = true) :
    Calls Tryz.prog 94 #[.pointer (some ⟨b, 0, none⟩), .slice p l.length cp] w fun e w' => TAns 0 i b c s false own w e w' := by
  have c21 : w.cell? ⟨b, 21, none⟩ = some (.bool false) := h.cell 21 rfl
  have c0 : w.cell? ⟨b, 0, none⟩ = some (.int .i64 c.m) := h.cell 0 rfl
  have hlt := h.lt
  have k1 := refRead_any c.m p cp l w hsrc hll hcp
  rw [hrd] at k1
  have K1 := hide k1
  have H := hide h
  clear h hsrc hrd k1
  go_enter Tryz.func94, Tryz.ntmps94
  go_wp2_with fail
  refine (unhide K1).mono ?_
  rintro e w1 ⟨q1, cp1, rfl, _, _, hb1⟩
  have h1 := (unhide H).later hb1
  have c5 : w1.cell? ⟨b, 5, none⟩ = some (.int .i64 c.addr) := h1.cell 5 rfl
  have hlt1 := h1.lt
  have HF := hide fun n x => (unhide H).ans 0 (below_drewN (hb1.alloc hb1.size x) n)
  clear K1 H h1 hb1 c21 c0
  go_wp2_with fail
  go_quiet (fail)
  go_wp2
  go_ret
  exact unhide HF _ _
end
end Go.Proofs.YtkalonhalhdlaaaGreatDoor

/-
  What Connect, Disconnect, Close, Busy and Tick of the document's station do.
-/
namespace Go.Proofs.YtkalonhalhdlaaaGreatDoor
open Go.RowKit
section
variable {w : World} {own : Nat → Nat} {i b : Nat} {c : Cfg} {s : St} {cl : Bool} {q cm o ev : Value} {ce oe : List Value}
set_option maxHeartbeats 4000000 in
set_option maxRecDepth 100000 in
theorem tconnect_closed (h : TAt w own i b c s true q cm o ev ce oe) :
    Calls Tryz.prog 52 #[.pointer (some ⟨b, 0, none⟩)] w fun e w' => TAns 8 i b c s true own w e w' := by
  have c21 : w.cell? ⟨b, 21, none⟩ = some (.bool true) := h.cell 21 rfl
  have hlt := h.lt
  have HE := hide (h.ans 8 (Below.refl _ w))
  clear h
  go_enter Tryz.func52, Tryz.ntmps52
  go_wp2
  go_ret
  exact unhide HE
set_option maxHeartbeats 4000000 in
set_option maxRecDepth 100000 in
theorem tleave_closed (h : TAt w own i b c s true q cm o ev ce oe) :
    Calls Tryz.prog 54 #[.pointer (some ⟨b, 0, none⟩)] w fun e w' => TAns 8 i b c s true own w e w' := by
  have c21 : w.cell? ⟨b, 21, none⟩ = some (.bool true) := h.cell 21 rfl
  have hlt := h.lt
  have HE := hide (h.ans 8 (Below.refl _ w))
  clear h
  go_enter Tryz.func54, Tryz.ntmps54
  go_wp2
  go_ret
  exact unhide HE
set_option maxHeartbeats 4000000 in
set_option maxRecDepth 100000 in
theorem tclose_closed (h : TAt w own i b c s true q cm o ev ce oe) :
    Calls Tryz.prog 60 #[.pointer (some ⟨b, 0, none⟩)] w fun e w' => TAns 8 i b c s true own w e w' := by
  have c21 : w.cell? ⟨b, 21, none⟩ = some (.bool true) := h.cell 21 rfl
  have hlt := h.lt
  have HE := hide (h.ans 8 (Below.refl _ w))
  clear h
  go_enter Tryz.func60, Tryz.ntmps60
  go_wp2
  go_ret
  exact unhide HE
set_option maxHeartbeats 4000000 in
set_option maxRecDepth 100000 in
theorem tbusy_closed (h : TAt w own i b c s true q cm o ev ce oe) (on : Bool) :
    Calls Tryz.prog 58 #[.pointer (some ⟨b, 0, none⟩), .bool on] w fun e w' => TAns 8 i b c s true own w e w' := by
  have c21 : w.cell? ⟨b, 21, none⟩ = some (.bool true) := h.cell 21 rfl
  have hlt := h.lt
  have HE := hide (h.ans 8 (Below.refl _ w))
  clear h
  go_enter Tryz.func58, Tryz.ntmps58
  go_wp2
  go_ret
  exact unhide HE
set_option maxHeartbeats 4000000 in
set_option maxRecDepth 100000 in
theorem ttick_closed (h : TAt w own i b c s true q cm o ev ce oe) :
    Calls Tryz.prog 62 #[.pointer (some ⟨b, 0, none⟩)] w fun e w' => TAns 8 i b c s true own w e w' := by
  have c21 : w.cell? ⟨b, 21, none⟩ = some (.bool true) := h.cell 21 rfl
  have hlt := h.lt
  have HE := hide (h.ans 8 (Below.refl _ w))
  clear h
  go_enter Tryz.func62, Tryz.ntmps62
  go_wp2
  go_ret
  exact unhide HE
set_option maxHeartbeats 4000000 in
set_option maxRecDepth 100000 in
theorem tsend_closed (h : TAt w own i b c s true q cm o ev ce oe) (v : Value) :
    Calls Tryz.prog 56 #[.pointer (some ⟨b, 0, none⟩), v] w fun e w' => TAns 8 i b c s true own w e w' := by
  have c21 : w.cell? ⟨b, 21, none⟩ = some (.bool true) := h.cell 21 rfl
  have hlt := h.lt
  have HE := hide (h.ans 8 (Below.refl _ w))
  clear h
  go_enter Tryz.func56, Tryz.ntmps56
  go_wp2
  go_ret
  exact unhide HE
set_option maxHeartbeats 4000000 in
set_option maxRecDepth 100000 in
theorem tconnect_ok (h : TAt w own i b c s false q cm o ev ce oe) (hst : s.state = 0 ∨ s.state = 4) (hl : s.out.length ≤ 2199023255552) :
    Calls Tryz.prog 52 #[.pointer (some ⟨b, 0, none⟩)] w fun e w' => TAns 0 i b c (ask c 1 5 s) false own w e w' := by
  have c21 : w.cell? ⟨b, 21, none⟩ = some (.bool false) := h.cell 21 rfl
  have c6 : w.cell? ⟨b, 6, none⟩ = some (.int .i64 s.state) := h.cell 6 rfl
  have hlt := h.lt
  have K1 := hide (asks_ref h 1 5 (by omega) hl)
  clear h
  rcases hst with e | e
  all_goals
    rw [e] at c6
    clear e
    go_enter Tryz.func52, Tryz.ntmps52
    go_wp2_with fail
    refine (unhide K1).mono ?_
    rintro e w1 ⟨rfl, own1, h1, u1⟩
    have HR := hide (And.intro h1 u1)
    clear K1 h1 u1 c21 c6
    go_wp2
    go_ret
    exact ⟨rfl, _, (unhide HR).1, (unhide HR).2⟩
set_option maxHeartbeats 4000000 in
set_option maxRecDepth 100000 in
theorem tconnect_no (h : TAt w own i b c s false q cm o ev ce oe) (hst : s.state = 1 ∨ s.state = 2 ∨ s.state = 3) :
    Calls Tryz.prog 52 #[.pointer (some ⟨b, 0, none⟩)] w fun e w' => TAns 6 i b c s false own w e w' := by
  have c21 : w.cell? ⟨b, 21, none⟩ = some (.bool false) := h.cell 21 rfl
  have c6 : w.cell? ⟨b, 6, none⟩ = some (.int .i64 s.state) := h.cell 6 rfl
  have hlt := h.lt
  have HE := hide (h.ans 6 (Below.refl _ w))
  clear h
  rcases hst with e | e | e
  all_goals
    rw [e] at c6
    clear e
    go_enter Tryz.func52, Tryz.ntmps52
    go_wp2
    go_ret
    exact unhide HE
set_option maxHeartbeats 4000000 in
set_option maxRecDepth 100000 in
theorem tleave_ok (h : TAt w own i b c s false q cm o ev ce oe) (hst : s.state = 1 ∨ s.state = 2 ∨ s.state = 4) (hl : s.out.length ≤ 2199023255552) :
    Calls Tryz.prog 54 #[.pointer (some ⟨b, 0, none⟩)] w fun e w' => TAns 0 i b c (ask c 3 6 s) false own w e w' := by
  have c21 : w.cell? ⟨b, 21, none⟩ = some (.bool false) := h.cell 21 rfl
  have c6 : w.cell? ⟨b, 6, none⟩ = some (.int .i64 s.state) := h.cell 6 rfl
  have hlt := h.lt
  have K1 := hide (asks_ref h 3 6 (by omega) hl)
  clear h
  rcases hst with e | e | e
  all_goals
    rw [e] at c6
    clear e
    go_enter Tryz.func54, Tryz.ntmps54
    go_wp2_with fail
    refine (unhide K1).mono ?_
    rintro e w1 ⟨rfl, own1, h1, u1⟩
    have HR := hide (And.intro h1 u1)
    clear K1 h1 u1 c21 c6
    go_wp2
    go_ret
    exact ⟨rfl, _, (unhide HR).1, (unhide HR).2⟩
set_option maxHeartbeats 4000000 in
set_option maxRecDepth 100000 in
theorem tleave_no (h : TAt w own i b c s false q cm o ev ce oe) (hst : s.state = 0 ∨ s.state = 3) :
    Calls Tryz.prog 54 #[.pointer (some ⟨b, 0, none⟩)] w fun e w' => TAns 6 i b c s false own w e w' := by
  have c21 : w.cell? ⟨b, 21, none⟩ = some (.bool false) := h.cell 21 rfl
  have c6 : w.cell? ⟨b, 6, none⟩ = some (.int .i64 s.state) := h.cell 6 rfl
  have hlt := h.lt
  have HE := hide (h.ans 6 (Below.refl _ w))
  clear h
  rcases hst with e | e
  all_goals
    rw [e] at c6
    clear e
    go_enter Tryz.func54, Tryz.ntmps54
    go_wp2
    go_ret
    exact unhide HE
set_option maxHeartbeats 4000000 in
set_option maxRecDepth 100000 in
theorem tclose_ok (h : TAt w own i b c s false q cm o ev ce oe) :
    Calls Tryz.prog 60 #[.pointer (some ⟨b, 0, none⟩)] w fun e w' => TAns 0 i b c s true own w e w' := by
  have c21 : w.cell? ⟨b, 21, none⟩ = some (.bool false) := h.cell 21 rfl
  have hlt := h.lt
  have fz := h.fz
  have hK : Keeps (· = b) w (w.setCell ⟨b, 21, none⟩ (.bool true)) := (Keeps.refl _ w).setB 21 _
  have h2 := h.wrote hK ((h.hd.shut true).as s rfl) rfl rfl rfl rfl h.sok
  have HR := hide (And.intro h2 (h.upd hK))
  clear h h2 hK
  go_enter Tryz.func60, Tryz.ntmps60
  go_wp2
  go_ret
  exact ⟨rfl, _, ⟨_, _, _, _, _, _, (unhide HR).1⟩, (unhide HR).2⟩
set_option maxHeartbeats 4000000 in
set_option maxRecDepth 100000 in
theorem tbusy_ok (h : TAt w own i b c s false q cm o ev ce oe) (on : Bool) (hl : s.out.length ≤ 2199023255552) :
    Calls Tryz.prog 58 #[.pointer (some ⟨b, 0, none⟩), .bool on] w fun e w' => TAns 0 i b c (busyS c on s) false own w e w' := by
  have c21 : w.cell? ⟨b, 21, none⟩ = some (.bool false) := h.cell 21 rfl
  have hlt := h.lt
  have K1 := hide (heldUp_ref h)
  have hdef : busyS c on s = if s.state = 2 ∧ heldUp c { s with busy := on } ≠ heldUp c s then answer c false { s with busy := on } else { s with busy := on } := rfl
  have K2 : Hid (∀ N, Calls Tryz.prog 91 #[.pointer (some ⟨b, 0, none⟩)] ((w.drewN N).setCell ⟨b, 16, none⟩ (.bool on)) _) := hide fun N => heldUp_ref ((h.drewN N).wrote (s' := { s with busy := on }) ((Keeps.refl _ _).setB 16 (.bool on)) ((h.drewN N).hd.busy on) rfl rfl rfl rfl ⟨h.sok.state, h.sok.vs, h.sok.va, h.sok.vr, h.sok.vm, h.sok.q20, h.sok.q32, h.sok.timer, h.sok.tries, h.sok.came⟩)
  have HX : Hid (∀ N N2, TAt (((w.drewN N).setCell ⟨b, 16, none⟩ (.bool on)).drewN N2) own i b c { s with busy := on } false q cm o ev ce oe ∧ Upd i own own w (((w.drewN N).setCell ⟨b, 16, none⟩ (.bool on)).drewN N2)) := hide fun N N2 => by
    have h2 := (h.drewN N).wrote (s' := { s with busy := on }) ((Keeps.refl _ _).setB 16 (.bool on)) ((h.drewN N).hd.busy on) rfl rfl rfl rfl ⟨h.sok.state, h.sok.vs, h.sok.va, h.sok.vr, h.sok.vm, h.sok.q20, h.sok.q32, h.sok.timer, h.sok.tries, h.sok.came⟩
    exact ⟨h2.drewN N2, (Upd.of (below_drewN (Below.refl _ w) N) ((h.drewN N).upd ((Keeps.refl _ _).setB 16 (.bool on)))).trans ⟨(Keeps.refl _ _).drewN N2, fun _ _ => rfl⟩⟩
  have c16 : ∀ N, (w.drewN N).cell? ⟨b, 16, none⟩ = some (.bool s.busy) := fun N => (h.drewN N).cell 16 rfl
  have fz : ∀ N j, (w.drewN N).frozen? ⟨b, j, none⟩ = false := fun N => (h.drewN N).fz
  clear h
  generalize heldUp c { s with busy := on } = a2 at *
  generalize heldUp c s = a1 at *
  go_enter Tryz.func58, Tryz.ntmps58
  go_wp2_with fail
  refine (unhide K1).mono ?_
  rintro e w1 ⟨rfl, n1, rfl⟩
  have d16 := c16 n1
  have fz1 := fz n1
  have K3 := hide (unhide K2 n1)
  clear K1 K2 c16 fz
  go_wp2_with fail
  refine (unhide K3).mono ?_
  rintro e w2 ⟨rfl, n2, rfl⟩
  obtain ⟨h3, u3⟩ := unhide HX n1 n2
  clear K3 HX d16 fz1 c21
  generalize (((w.drewN n1).setCell ⟨b, 16, none⟩ (.bool on)).drewN n2) = V at *
  have c6 : V.cell? ⟨b, 6, none⟩ = some (.int .i64 s.state) := h3.cell 6 rfl
  have hlt3 := h3.lt
  have K4 := hide (status_ref h3 false false hl)
  have HR := hide (And.intro h3 u3)
  have HD := hide hdef
  clear h3 u3 hdef
  by_cases hst : s.state = 2
  · rw [hst] at c6
    by_cases hne : a2 = a1
    · have HP : Hid (busyS c on s = { s with busy := on }) := hide ((unhide HD).trans (if_neg (fun hh => hh.2 hne)))
      subst hne
      clear K4 HD hst
      go_wp2
      go_ret
      rw [unhide HP]
      exact ⟨rfl, _, ⟨_, _, _, _, _, _, (unhide HR).1⟩, (unhide HR).2⟩
    · have HP : Hid (busyS c on s = answer c false { s with busy := on }) := hide ((unhide HD).trans (if_pos ⟨hst, hne⟩))
      clear HD hst
      have hx : (a1 = true ∧ a2 = false) ∨ (a1 = false ∧ a2 = true) := by cases a1 <;> cases a2 <;> simp at hne ⊢
      clear hne
      rcases hx with ⟨rfl, rfl⟩ | ⟨rfl, rfl⟩
      all_goals
        go_wp2_with fail
        refine (unhide K4).mono ?_
        rintro e w5 ⟨rfl, own5, o5, oe5, h5, u5⟩
        have HR5 := hide (And.intro h5 ((unhide HR).2.trans u5))
        clear K4 h5 u5 c6 HR
        go_wp2
        go_ret
        rw [unhide HP]
        exact ⟨rfl, _, ⟨_, _, _, _, _, _, (unhide HR5).1⟩, (unhide HR5).2⟩
  · have HP : Hid (busyS c on s = { s with busy := on }) := hide ((unhide HD).trans (if_neg (fun hh => hst hh.1)))
    have hsI : ((s.state : Int) == 2) = false := by simp; omega
    clear K4 HD hst
    go_wp2
    go_ret
    rw [unhide HP]
    exact ⟨rfl, _, ⟨_, _, _, _, _, _, (unhide HR).1⟩, (unhide HR).2⟩
end
end Go.Proofs.YtkalonhalhdlaaaGreatDoor

/-
  What Tick, OutAll and Events of the document's station do.
-/
namespace Go.Proofs.YtkalonhalhdlaaaGreatDoor
open Go.RowKit
section
variable {w : World} {own : Nat → Nat} {i b : Nat} {c : Cfg} {s : St} {cl : Bool} {q cm o ev : Value} {ce oe : List Value}
set_option maxHeartbeats 4000000 in
set_option maxRecDepth 100000 in
theorem ttick_0 (h : TAt w own i b c s false q cm o ev ce oe) (ht : s.timer = 0) :
    Calls Tryz.prog 62 #[.pointer (some ⟨b, 0, none⟩)] w fun e w' => TAns 0 i b c s false own w e w' := by
  have c21 : w.cell? ⟨b, 21, none⟩ = some (.bool false) := h.cell 21 rfl
  have c12 : w.cell? ⟨b, 12, none⟩ = some (.int .i64 s.timer) := h.cell 12 rfl
  rw [ht] at c12
  have hlt := h.lt
  have HE := hide (h.ans 0 (Below.refl _ w))
  clear h
  go_enter Tryz.func62, Tryz.ntmps62
  go_wp2
  go_ret
  exact unhide HE
set_option maxHeartbeats 4000000 in
set_option maxRecDepth 100000 in
theorem ttick_2 (h : TAt w own i b c s false q cm o ev ce oe) (ht : 2 ≤ s.timer) :
    Calls Tryz.prog 62 #[.pointer (some ⟨b, 0, none⟩)] w fun e w' => TAns 0 i b c { s with timer := s.timer - 1 } false own w e w' := by
  have c21 : w.cell? ⟨b, 21, none⟩ = some (.bool false) := h.cell 21 rfl
  have c12 : w.cell? ⟨b, 12, none⟩ = some (.int .i64 s.timer) := h.cell 12 rfl
  have hlt := h.lt
  have fz := h.fz
  have htm := h.sok.timer
  have h100 := h.cok.tim100
  have hK : Keeps (· = b) w (w.setCell ⟨b, 12, none⟩ (.int .i64 (s.timer - 1 : Nat))) := (Keeps.refl _ w).setB 12 _
  have h2 := h.wrote hK ((h.hd.timer (s.timer - 1)).as { s with timer := s.timer - 1 } rfl) rfl rfl rfl rfl ⟨h.sok.state, h.sok.vs, h.sok.va, h.sok.vr, h.sok.vm, h.sok.q20, h.sok.q32, by show s.timer - 1 ≤ c.tim; omega, h.sok.tries, h.sok.came⟩
  have HR := hide (And.intro h2 (h.upd hK))
  clear h h2 hK
  have hz : ((s.timer : Int) == 0) = false := by simp; omega
  have hf : (s.timer : Int) - 1 = ((s.timer - 1 : Nat) : Int) := by omega
  have hp : (0 : Int) < ((s.timer - 1 : Nat) : Int) := by omega
  have hb : (s.timer : Int) ≤ 100 := by omega
  have hb0 : (0 : Int) ≤ (s.timer : Int) := by omega
  clear ht htm h100
  generalize s.timer - 1 = t1 at *
  go_enter Tryz.func62, Tryz.ntmps62
  go_wp2
  go_ret
  exact ⟨rfl, _, ⟨_, _, _, _, _, _, (unhide HR).1⟩, (unhide HR).2⟩
set_option maxHeartbeats 4000000 in
set_option maxRecDepth 100000 in
theorem ttick_end (h : TAt w own i b c s false q cm o ev ce oe) (ht : s.timer = 1) (hr : s.tries = c.tri) (hl2 : s.events.length ≤ 2199023255552) :
    Calls Tryz.prog 62 #[.pointer (some ⟨b, 0, none⟩)] w fun e w' => TAns 0 i b c (goDown 4 { s with timer := 0 }) false own w e w' := by
  have c21 : w.cell? ⟨b, 21, none⟩ = some (.bool false) := h.cell 21 rfl
  have c12 : w.cell? ⟨b, 12, none⟩ = some (.int .i64 s.timer) := h.cell 12 rfl
  rw [ht] at c12
  have c13 : w.cell? ⟨b, 13, none⟩ = some (.int .i64 s.tries) := h.cell 13 rfl
  have c3 : w.cell? ⟨b, 3, none⟩ = some (.int .i64 c.tri) := h.cell 3 rfl
  have hlt := h.lt
  have fz := h.fz
  have hK : Keeps (· = b) w (w.setCell ⟨b, 12, none⟩ (.int .i64 (0 : Nat))) := (Keeps.refl _ w).setB 12 _
  have h2 := h.wrote hK ((h.hd.timer 0).as { s with timer := 0 } rfl) rfl rfl rfl rfl ⟨h.sok.state, h.sok.vs, h.sok.va, h.sok.vr, h.sok.vm, h.sok.q20, h.sok.q32, Nat.zero_le _, h.sok.tries, h.sok.came⟩
  have u2 := h.upd hK
  have htr := h.sok.tries
  have H2 := hide (And.intro h2 u2)
  clear h h2 u2 hK
  have hge : ((c.tri : Nat) : Int) ≤ ((s.tries : Nat) : Int) := by omega
  clear hr htr
  go_enter Tryz.func62, Tryz.ntmps62
  go_wp2_with fail
  go_quiet (fail)
  have hV := (unhide H2).1.drewN nq
  have uV := (unhide H2).2.trans (⟨(Keeps.refl _ _).drewN nq, fun _ _ => rfl⟩ : Upd i own own _ ((w.setCell ⟨b, 12, none⟩ (.int .i64 (0 : Nat))).drewN nq))
  have K2 := hide (becomes_ref hV 0 4 (by omega) hl2)
  have HU := hide uV
  clear hV uV H2
  go_wp2_with fail
  refine (unhide K2).mono ?_
  rintro e w5 ⟨rfl, own5, h5, u5⟩
  have HR := hide (And.intro h5 ((unhide HU).trans u5))
  clear K2 h5 u5 HU c21 c12 c13 c3 fz
  go_wp2
  go_ret
  exact ⟨rfl, _, (unhide HR).1, (unhide HR).2⟩
set_option maxHeartbeats 4000000 in
set_option maxRecDepth 100000 in
theorem ttick_s1 (h : TAt w own i b c s false q cm o ev ce oe) (ht : s.timer = 1) (hr : s.tries < c.tri) (hst : s.state = 1) (hl : s.out.length ≤ 2199023255552) :
    Calls Tryz.prog 62 #[.pointer (some ⟨b, 0, none⟩)] w fun e w' => TAns 0 i b c (putC c ⟨0, 5, true, 0, 0, []⟩ { s with tries := s.tries + 1, timer := c.tim }) false own w e w' := by
  have h10 := h.cok.tri10
  have c21 : w.cell? ⟨b, 21, none⟩ = some (.bool false) := h.cell 21 rfl
  have c12 : w.cell? ⟨b, 12, none⟩ = some (.int .i64 s.timer) := h.cell 12 rfl
  rw [ht] at c12
  have c13 : w.cell? ⟨b, 13, none⟩ = some (.int .i64 s.tries) := h.cell 13 rfl
  have c3 : w.cell? ⟨b, 3, none⟩ = some (.int .i64 c.tri) := h.cell 3 rfl
  have hlt := h.lt
  have fz := h.fz
  have hK : Keeps (· = b) w (w.setCell ⟨b, 12, none⟩ (.int .i64 (0 : Nat))) := (Keeps.refl _ w).setB 12 _
  have h2 := h.wrote hK ((h.hd.timer 0).as { s with timer := 0 } rfl) rfl rfl rfl rfl ⟨h.sok.state, h.sok.vs, h.sok.va, h.sok.vr, h.sok.vm, h.sok.q20, h.sok.q32, Nat.zero_le _, h.sok.tries, h.sok.came⟩
  have u2 := h.upd hK
  have htr := h.sok.tries
  have H2 := hide (And.intro h2 u2)
  clear h h2 u2 hK
  have hge : ¬ ((c.tri : Nat) : Int) ≤ ((s.tries : Nat) : Int) := by omega
  go_enter Tryz.func62, Tryz.ntmps62
  go_wp2_with fail
  go_quiet (fail)
  have hV := (unhide H2).1.drewN nq
  have uV := (unhide H2).2.trans (⟨(Keeps.refl _ _).drewN nq, fun _ _ => rfl⟩ : Upd i own own _ ((w.setCell ⟨b, 12, none⟩ (.int .i64 (0 : Nat))).drewN nq))
  clear H2 c21 c12 c13 c3 fz
  have hgen : ∀ V, TAt V own i b c { s with timer := 0 } false q cm o ev ce oe → Upd i own own w V → True := fun _ _ _ => trivial
  clear hgen
  go_upto_region 11 with fail
  obtain ⟨V, hVV⟩ : ∃ V, V = (w.setCell ⟨b, 12, none⟩ (.int .i64 0)).drewN nq := ⟨_, rfl⟩
  have hV : TAt V own i b c { s with timer := 0 } false q cm o ev ce oe := by rw [hVV]; exact hV
  have uV : Upd i own own w V := by rw [hVV]; exact uV
  rw [← hVV]
  clear hVV
  have c2 : V.cell? ⟨b, 2, none⟩ = some (.int .i64 c.tim) := hV.cell 2 rfl
  have c6 : V.cell? ⟨b, 6, none⟩ = some (.int .i64 s.state) := hV.cell 6 rfl
  rw [hst] at c6
  have c12 : V.cell? ⟨b, 12, none⟩ = some (.int .i64 (0 : Nat)) := hV.cell 12 rfl
  have c13 : V.cell? ⟨b, 13, none⟩ = some (.int .i64 s.tries) := hV.cell 13 rfl
  have c14 : V.cell? ⟨b, 14, none⟩ = some (.bool s.polling) := hV.cell 14 rfl
  have fz := hV.fz
  have hltV := hV.lt
  have hK : Keeps (· = b) V ((V.setCell ⟨b, 13, none⟩ (.int .i64 ((s.tries + 1 : Nat) : Int))).setCell ⟨b, 12, none⟩ (.int .i64 c.tim)) := (((Keeps.refl _ V).setB 13 _).setB 12 _)
  have h3 := hV.wrote hK (((hV.hd.tries (s.tries + 1)).timer c.tim).as { s with tries := s.tries + 1, timer := c.tim } rfl) rfl rfl rfl rfl ⟨hV.sok.state, hV.sok.vs, hV.sok.va, hV.sok.vr, hV.sok.vm, hV.sok.q20, hV.sok.q32, Nat.le_refl _, by show s.tries + 1 ≤ c.tri; omega, hV.sok.came⟩
  have k3 := puts_ref h3 true ⟨0, 5, true, 0, 0, []⟩ none 0 (srcE_nil _) hl
  unfold frV at k3
  have K3 := hide k3
  have HU := hide (uV.trans (hV.upd hK))
  have hf : ((s.tries : Nat) : Int) + 1 = ((s.tries + 1 : Nat) : Int) := by omega
  clear hV uV hK h3 k3 hr hge htr
  generalize htr1 : s.tries + 1 = tr1 at *
  have HTR := hide htr1
  clear htr1
  go_wp2_with fail
  refine (unhide K3).mono ?_
  rintro e w5 ⟨rfl, own5, o5, oe5, h5, u5⟩
  have HR := hide (And.intro h5 ((unhide HU).trans u5))
  clear K3 h5 u5 HU c2 c6 c12 c13 c14 fz
  go_wp2
  go_ret
  rw [unhide HTR]
  exact ⟨rfl, _, ⟨_, _, _, _, _, _, (unhide HR).1⟩, (unhide HR).2⟩
set_option maxHeartbeats 4000000 in
set_option maxRecDepth 100000 in
theorem ttick_s3 (h : TAt w own i b c s false q cm o ev ce oe) (ht : s.timer = 1) (hr : s.tries < c.tri) (hst : s.state = 3) (hl : s.out.length ≤ 2199023255552) :
    Calls Tryz.prog 62 #[.pointer (some ⟨b, 0, none⟩)] w fun e w' => TAns 0 i b c (putC c ⟨0, 6, true, 0, 0, []⟩ { s with tries := s.tries + 1, timer := c.tim }) false own w e w' := by
  have h10 := h.cok.tri10
  have c21 : w.cell? ⟨b, 21, none⟩ = some (.bool false) := h.cell 21 rfl
  have c12 : w.cell? ⟨b, 12, none⟩ = some (.int .i64 s.timer) := h.cell 12 rfl
  rw [ht] at c12
  have c13 : w.cell? ⟨b, 13, none⟩ = some (.int .i64 s.tries) := h.cell 13 rfl
  have c3 : w.cell? ⟨b, 3, none⟩ = some (.int .i64 c.tri) := h.cell 3 rfl
  have hlt := h.lt
  have fz := h.fz
  have hK : Keeps (· = b) w (w.setCell ⟨b, 12, none⟩ (.int .i64 (0 : Nat))) := (Keeps.refl _ w).setB 12 _
  have h2 := h.wrote hK ((h.hd.timer 0).as { s with timer := 0 } rfl) rfl rfl rfl rfl ⟨h.sok.state, h.sok.vs, h.sok.va, h.sok.vr, h.sok.vm, h.sok.q20, h.sok.q32, Nat.zero_le _, h.sok.tries, h.sok.came⟩
  have u2 := h.upd hK
  have htr := h.sok.tries
  have H2 := hide (And.intro h2 u2)
  clear h h2 u2 hK
  have hge : ¬ ((c.tri : Nat) : Int) ≤ ((s.tries : Nat) : Int) := by omega
  go_enter Tryz.func62, Tryz.ntmps62
  go_wp2_with fail
  go_quiet (fail)
  have hV := (unhide H2).1.drewN nq
  have uV := (unhide H2).2.trans (⟨(Keeps.refl _ _).drewN nq, fun _ _ => rfl⟩ : Upd i own own _ ((w.setCell ⟨b, 12, none⟩ (.int .i64 (0 : Nat))).drewN nq))
  clear H2 c21 c12 c13 c3 fz
  have hgen : ∀ V, TAt V own i b c { s with timer := 0 } false q cm o ev ce oe → Upd i own own w V → True := fun _ _ _ => trivial
  clear hgen
  go_upto_region 11 with fail
  obtain ⟨V, hVV⟩ : ∃ V, V = (w.setCell ⟨b, 12, none⟩ (.int .i64 0)).drewN nq := ⟨_, rfl⟩
  have hV : TAt V own i b c { s with timer := 0 } false q cm o ev ce oe := by rw [hVV]; exact hV
  have uV : Upd i own own w V := by rw [hVV]; exact uV
  rw [← hVV]
  clear hVV
  have c2 : V.cell? ⟨b, 2, none⟩ = some (.int .i64 c.tim) := hV.cell 2 rfl
  have c6 : V.cell? ⟨b, 6, none⟩ = some (.int .i64 s.state) := hV.cell 6 rfl
  rw [hst] at c6
  have c12 : V.cell? ⟨b, 12, none⟩ = some (.int .i64 (0 : Nat)) := hV.cell 12 rfl
  have c13 : V.cell? ⟨b, 13, none⟩ = some (.int .i64 s.tries) := hV.cell 13 rfl
  have c14 : V.cell? ⟨b, 14, none⟩ = some (.bool s.polling) := hV.cell 14 rfl
  have fz := hV.fz
  have hltV := hV.lt
  have hK : Keeps (· = b) V ((V.setCell ⟨b, 13, none⟩ (.int .i64 ((s.tries + 1 : Nat) : Int))).setCell ⟨b, 12, none⟩ (.int .i64 c.tim)) := (((Keeps.refl _ V).setB 13 _).setB 12 _)
  have h3 := hV.wrote hK (((hV.hd.tries (s.tries + 1)).timer c.tim).as { s with tries := s.tries + 1, timer := c.tim } rfl) rfl rfl rfl rfl ⟨hV.sok.state, hV.sok.vs, hV.sok.va, hV.sok.vr, hV.sok.vm, hV.sok.q20, hV.sok.q32, Nat.le_refl _, by show s.tries + 1 ≤ c.tri; omega, hV.sok.came⟩
  have k3 := puts_ref h3 true ⟨0, 6, true, 0, 0, []⟩ none 0 (srcE_nil _) hl
  unfold frV at k3
  have K3 := hide k3
  have HU := hide (uV.trans (hV.upd hK))
  have hf : ((s.tries : Nat) : Int) + 1 = ((s.tries + 1 : Nat) : Int) := by omega
  clear hV uV hK h3 k3 hr hge htr
  generalize htr1 : s.tries + 1 = tr1 at *
  have HTR := hide htr1
  clear htr1
  go_wp2_with fail
  refine (unhide K3).mono ?_
  rintro e w5 ⟨rfl, own5, o5, oe5, h5, u5⟩
  have HR := hide (And.intro h5 ((unhide HU).trans u5))
  clear K3 h5 u5 HU c2 c6 c12 c13 c14 fz
  go_wp2
  go_ret
  rw [unhide HTR]
  exact ⟨rfl, _, ⟨_, _, _, _, _, _, (unhide HR).1⟩, (unhide HR).2⟩
set_option maxHeartbeats 4000000 in
set_option maxRecDepth 100000 in
theorem ttick_s2 (h : TAt w own i b c s false q cm o ev ce oe) (ht : s.timer = 1) (hr : s.tries < c.tri) (hst : s.state = 2) (hl : s.out.length ≤ 2199023255552) :
    Calls Tryz.prog 62 #[.pointer (some ⟨b, 0, none⟩)] w fun e w' => TAns 0 i b c (putC c ⟨0, ready c s, true, 0, s.vr, []⟩ { s with tries := s.tries + 1, timer := c.tim, polling := true }) false own w e w' := by
  have h10 := h.cok.tri10
  have c21 : w.cell? ⟨b, 21, none⟩ = some (.bool false) := h.cell 21 rfl
  have c12 : w.cell? ⟨b, 12, none⟩ = some (.int .i64 s.timer) := h.cell 12 rfl
  rw [ht] at c12
  have c13 : w.cell? ⟨b, 13, none⟩ = some (.int .i64 s.tries) := h.cell 13 rfl
  have c3 : w.cell? ⟨b, 3, none⟩ = some (.int .i64 c.tri) := h.cell 3 rfl
  have hlt := h.lt
  have fz := h.fz
  have hK : Keeps (· = b) w (w.setCell ⟨b, 12, none⟩ (.int .i64 (0 : Nat))) := (Keeps.refl _ w).setB 12 _
  have h2 := h.wrote hK ((h.hd.timer 0).as { s with timer := 0 } rfl) rfl rfl rfl rfl ⟨h.sok.state, h.sok.vs, h.sok.va, h.sok.vr, h.sok.vm, h.sok.q20, h.sok.q32, Nat.zero_le _, h.sok.tries, h.sok.came⟩
  have u2 := h.upd hK
  have htr := h.sok.tries
  have H2 := hide (And.intro h2 u2)
  clear h h2 u2 hK
  have hge : ¬ ((c.tri : Nat) : Int) ≤ ((s.tries : Nat) : Int) := by omega
  go_enter Tryz.func62, Tryz.ntmps62
  go_wp2_with fail
  go_quiet (fail)
  have hV := (unhide H2).1.drewN nq
  have uV := (unhide H2).2.trans (⟨(Keeps.refl _ _).drewN nq, fun _ _ => rfl⟩ : Upd i own own _ ((w.setCell ⟨b, 12, none⟩ (.int .i64 (0 : Nat))).drewN nq))
  clear H2 c21 c12 c13 c3 fz
  have hgen : ∀ V, TAt V own i b c { s with timer := 0 } false q cm o ev ce oe → Upd i own own w V → True := fun _ _ _ => trivial
  clear hgen
  go_upto_region 11 with fail
  obtain ⟨V, hVV⟩ : ∃ V, V = (w.setCell ⟨b, 12, none⟩ (.int .i64 0)).drewN nq := ⟨_, rfl⟩
  have hV : TAt V own i b c { s with timer := 0 } false q cm o ev ce oe := by rw [hVV]; exact hV
  have uV : Upd i own own w V := by rw [hVV]; exact uV
  rw [← hVV]
  clear hVV
  have c2 : V.cell? ⟨b, 2, none⟩ = some (.int .i64 c.tim) := hV.cell 2 rfl
  have c6 : V.cell? ⟨b, 6, none⟩ = some (.int .i64 s.state) := hV.cell 6 rfl
  rw [hst] at c6
  have c12 : V.cell? ⟨b, 12, none⟩ = some (.int .i64 (0 : Nat)) := hV.cell 12 rfl
  have c13 : V.cell? ⟨b, 13, none⟩ = some (.int .i64 s.tries) := hV.cell 13 rfl
  have c14 : V.cell? ⟨b, 14, none⟩ = some (.bool s.polling) := hV.cell 14 rfl
  have fz := hV.fz
  have hltV := hV.lt
  have hK : Keeps (· = b) V (((V.setCell ⟨b, 13, none⟩ (.int .i64 ((s.tries + 1 : Nat) : Int))).setCell ⟨b, 12, none⟩ (.int .i64 c.tim)).setCell ⟨b, 14, none⟩ (.bool true)) := ((((Keeps.refl _ V).setB 13 _).setB 12 _).setB 14 _)
  have h3 := hV.wrote hK ((((hV.hd.tries (s.tries + 1)).timer c.tim).polling true).as { s with tries := s.tries + 1, timer := c.tim, polling := true } rfl) rfl rfl rfl rfl ⟨hV.sok.state, hV.sok.vs, hV.sok.va, hV.sok.vr, hV.sok.vm, hV.sok.q20, hV.sok.q32, Nat.le_refl _, by show s.tries + 1 ≤ c.tri; omega, hV.sok.came⟩
  have k3 := status_ref h3 true true hl
  skip
  have K3 := hide k3
  have HU := hide (uV.trans (hV.upd hK))
  have hf : ((s.tries : Nat) : Int) + 1 = ((s.tries + 1 : Nat) : Int) := by omega
  clear hV uV hK h3 k3 hr hge htr
  generalize htr1 : s.tries + 1 = tr1 at *
  have HTR := hide htr1
  clear htr1
  go_wp2_with fail
  refine (unhide K3).mono ?_
  rintro e w5 ⟨rfl, own5, o5, oe5, h5, u5⟩
  have HR := hide (And.intro h5 ((unhide HU).trans u5))
  clear K3 h5 u5 HU c2 c6 c12 c13 c14 fz
  go_wp2
  go_ret
  rw [unhide HTR]
  exact ⟨rfl, _, ⟨_, _, _, _, _, _, (unhide HR).1⟩, (unhide HR).2⟩
set_option maxHeartbeats 4000000 in
set_option maxRecDepth 100000 in
theorem toutall_any (h : TAt w own i b c s cl q cm o ev ce oe) :
    Calls Tryz.prog 41 #[.pointer (some ⟨b, 0, none⟩)] w fun e w' => if cl then e = .returned (.tuple #[.slice none 0 0, .int .i64 (8 : Nat)]) ∧ w' = w else e = .returned (.tuple #[o, .int .i64 (0 : Nat)]) ∧ TAt w' own i b c { s with out := [] } cl q cm (.slice none 0 0) ev ce [] ∧ Lst w' own (tg i 3) o oe s.out ∧ Keeps (· = b) w w' := by
  have hlt := h.lt
  have c21 : w.cell? ⟨b, 21, none⟩ = some (.bool cl) := h.cell 21 rfl
  have cX : w.cell? ⟨b, 19, none⟩ = some o := h.cell 19 rfl
  have fz := h.fz
  obtain ⟨op, ocap, rfl, _, _⟩ := h.lo.slice
  cases cl with
  | true =>
    clear h
    go_enter Tryz.func41, Tryz.ntmps41
    go_wp2
    go_ret2
    exact ⟨rfl, rfl⟩
  | false =>
    have H := hide h
    clear h
    go_enter Tryz.func41, Tryz.ntmps41
    go_wp2
    go_ret2
    have h := unhide H
    have hK : Keeps (· = b) w _ := (Keeps.refl _ w).setB 19 (.slice none 0 0)
    exact ⟨rfl, h.wroteL hK ((h.hd.lo _).as { s with out := [] } rfl) h.lq Stays.same Stays.gone (.inl ⟨rfl, rfl⟩) (h.sok.out []), h.lo.keeps hK (fun k hk => by rw [hk, h.ownb]; exact tg_ne (by omega) (by omega) (.inr (by omega))) (fun _ _ => rfl), hK⟩
set_option maxHeartbeats 4000000 in
set_option maxRecDepth 100000 in
theorem tevents_any (h : TAt w own i b c s cl q cm o ev ce oe) :
    Calls Tryz.prog 49 #[.pointer (some ⟨b, 0, none⟩)] w fun e w' => if cl then e = .returned (.tuple #[.slice none 0 0, .int .i64 (8 : Nat)]) ∧ w' = w else e = .returned (.tuple #[ev, .int .i64 (0 : Nat)]) ∧ TAt w' own i b c { s with events := [] } cl q cm o (.slice none 0 0) ce oe ∧ w'.ownsRow 0 3 1 ev s.events.length (s.events.map fun n => .int .i64 (n : Nat)) ∧ Keeps (· = b) w w' := by
  have hlt := h.lt
  have c21 : w.cell? ⟨b, 21, none⟩ = some (.bool cl) := h.cell 21 rfl
  have cX : w.cell? ⟨b, 20, none⟩ = some ev := h.cell 20 rfl
  have fz := h.fz
  obtain ⟨op, ocap, rfl⟩ := row_slice h.lev
  cases cl with
  | true =>
    clear h
    go_enter Tryz.func49, Tryz.ntmps49
    go_wp2
    go_ret2
    exact ⟨rfl, rfl⟩
  | false =>
    have H := hide h
    clear h
    go_enter Tryz.func49, Tryz.ntmps49
    go_wp2
    go_ret2
    have h := unhide H
    have hK : Keeps (· = b) w _ := (Keeps.refl _ w).setB 20 (.slice none 0 0)
    exact ⟨rfl, h.wroteL hK ((h.hd.lev _).as { s with events := [] } rfl) h.lq Stays.same Stays.same (.inr ⟨rfl, rfl⟩) (h.sok.events []), ownsRow_keepsB h.lev hK (fun k hb hX => by have := h.owne k hb; rw [hX, h.ownb] at this; exact tg_ne (by omega) (by omega) (.inr (by omega)) this), hK⟩
end
end Go.Proofs.YtkalonhalhdlaaaGreatDoor
