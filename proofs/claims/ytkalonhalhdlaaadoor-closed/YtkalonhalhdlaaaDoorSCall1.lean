/-
  What one call of Hear does.
-/
import Derived.Test.YtkalonhalhdlaaaDoorSHears
namespace Go.Proofs.YtkalonhalhdlaaaDoor
open Go.RowKit

/-- A call that answers with an error's number has made of a station the station s'. -/
def Ans (n : Nat) (i b : Nat) (c : Cfg) (s' : St) (cl : Bool) (own : Nat → Nat) (w : World) (e : Ending) (w' : World) : Prop :=
  e = .returned (.int .i64 n) ∧ ∃ own', Stn w' own' i b c s' cl ∧ Upd i own own' w w'

section
variable {w W : World} {own : Nat → Nat} {i b : Nat} {c : Cfg} {s : St} {cl : Bool} {ch : Nat} {q cm o ev : Value} {qe ce oe : List Value}

theorem SAt.ans (h : SAt w own i b c s cl ch q cm o ev qe ce oe) (n : Nat) {w' : World} (hb : Below w.heap.size w w') : Ans n i b c s cl own w (.returned (.int .i64 n)) w' := ⟨rfl, own, ⟨_, _, _, _, _, _, _, _, h.later hb⟩, (Upd.refl i own w').of hb⟩

theorem ctlF_nr (m k : Nat) (hm : m = 8 ∨ m = 128) (l : List UInt8) : ∃ nr : Nat, (ctlF m k l).nr = nr ∧ nr < m := by
  have h0 : (l.getD 0 0).toNat < 256 := (l.getD 0 0).toNat_lt
  have h1 : (l.getD 1 0).toNat < 256 := (l.getD 1 0).toNat_lt
  by_cases h4 : 4 < k
  · have e : (ctlF m k l).nr = ((0 : Nat) : Int) := by simp only [ctlF, h4, if_true]; rfl
    exact ⟨0, e, by omega⟩
  · by_cases h8 : m = 8
    · subst h8
      have e : (ctlF 8 k l).nr = (((l.getD 0 0).toNat / 32 : Nat) : Int) := by simp only [ctlF, h4, if_true, if_false]
      exact ⟨_, e, by omega⟩
    · have e : (ctlF m k l).nr = (((l.getD 1 0).toNat / 2 : Nat) : Int) := by simp only [ctlF, h4, h8, if_false]
      exact ⟨_, e, by omega⟩
theorem readL_nr (m : Nat) (hm : m = 8 ∨ m = 128) (l : List UInt8) : ∃ nr : Nat, (readL m l).2.nr = nr ∧ nr < m := by
  unfold readL
  dsimp only
  split
  · exact ⟨0, rfl, by omega⟩
  · split
    · exact ⟨0, rfl, by omega⟩
    · split
      · exact ⟨0, rfl, by omega⟩
      · exact ctlF_nr m _ hm _

set_option maxHeartbeats 4000000 in
set_option maxRecDepth 100000 in
theorem hear_any (h : SAt w own i b c s cl ch q cm o ev qe ce oe) (p : Option Addr) (cp : Nat) (l : List UInt8) (hsrc : SrcIs w p l) (hll : l.length ≤ 1048576) (hcp : l.length ≤ cp) (hc63 : cp ≤ 9223372036854775807) (hvm : ahead c s s.vm ≤ s.queue.length) (hl : s.out.length + 18 ≤ 2199023255552) (hl2 : s.events.length + 2 ≤ 2199023255552) :
    Calls Tryd.prog 14 #[.pointer (some ⟨b, 0, none⟩), .slice p l.length cp] w fun e w' => Ans (if cl then 8 else (hearS c l s).1) i b c (if cl then s else (hearS c l s).2) cl own w e w' := by
  have hlt := h.lt
  have k1 := isClosed_any h
  cases cl with
  | true =>
    have H := hide h
    clear h
    go_enter Tryd.func14, Tryd.ntmps14
    go_wp2_with fail
    refine k1.mono ?_
    rintro e w1 ⟨rfl, hw1⟩
    subst hw1
    clear k1
    go_wp2
    go_ret
    exact (unhide H).ans 8 (Below.refl _ _)
  | false =>
    have c0 := h.c_m
    have hk2 := fun V (hV : Below w.heap.size w V) => read_any (c.m : Int) p cp l V (hsrc.below hV (Nat.le_refl _)) (h.ctl.below hV h.pos) (Nat.lt_of_lt_of_le h.pos hV.size) hll hcp hc63
    have K2 := hide hk2
    have H := hide h
    clear h hk2 hsrc
    go_enter Tryd.func14, Tryd.ntmps14
    go_wp2_with fail
    refine k1.mono ?_
    rintro e w1 ⟨rfl, hw1⟩
    subst hw1
    clear k1
    go_wp2_with fail
    refine (unhide K2 _ (Below.refl _ _)).mono ?_
    rintro e w2 ⟨fq, fcp, rfl, hrow, _, hb⟩
    have hm := (unhide H).cok.m
    obtain ⟨nr, hnr1, hnr2⟩ := readL_nr c.m hm l
    have hdef : hearS c l s = if (readL c.m l).1 ≠ 0 then ((readL c.m l).1, s) else (0, if heeds c (readL c.m l).2 then hearFrame c (readL c.m l).2 s else s) := rfl
    generalize (readL c.m l).1 = er at *
    generalize (readL c.m l).2 = f at *
    obtain ⟨fa, fk, fp, ns, fnr, info⟩ := f
    simp only at hnr1 hrow hdef ⊢
    subst hnr1
    have hrow0 := ownsRow_mono hrow (Nat.zero_le _)
    have hfree : ∀ k, (Value.slice fq info.length fcp).ownBlock = some k → own k = 0 ∧ k ≠ 0 := fun k hk => by
      have h1 := World.ownsRow.lt hrow k hk
      exact ⟨(unhide H).new0 k h1.1, by have := (unhide H).pos; omega⟩
    have hTnew : ∀ k, (Value.slice fq info.length fcp).ownBlock = some k → w1.heap.size ≤ k := fun k hk => (World.ownsRow.lt hrow k hk).1
    have h2 := (unhide H).later hb
    have k3 := fun V (hV : Below w2.heap.size w2 V) => heeds_any (h2.later hV) ⟨fa, fk, fp, ns, (nr : Nat), info⟩ fq fcp
    have k4 := fun V (hV : Below w2.heap.size w2 V) => hearFrame_any (h2.later hV) fa fk fp ns nr info fq fcp hnr2 hvm (ownsRow_keepsB hrow0 (Keeps.of (X := fun _ => False) hV) (fun _ _ => id)) hfree hl hl2
    unfold frV at k3 k4
    simp only at k3 k4
    generalize hx : heeds c ⟨fa, fk, fp, ns, (nr : Nat), info⟩ = x at k3 hdef
    have K3 := hide k3
    have K4 := hide k4
    have HD := hide hdef
    have HB := hide hb
    have HT := hide hTnew
    clear h2 k3 k4 hdef hb hx hTnew hfree hrow0 hrow K2 hm
    by_cases he : er = 0
    · subst he
      have HD1 := hide ((unhide HD).trans (if_neg (by simp)))
      clear HD
      cases x with
      | true =>
        have HD2 := hide ((unhide HD1).trans (congrArg (fun y => ((0 : Nat), y)) (if_pos rfl)))
        clear HD1
        go_wp2_with fail
        refine (unhide K3 _ ?_).mono ?_
        · exact (Below.refl _ w2).alloc (Nat.le_refl _) _
        rintro e w3 ⟨rfl, hb3⟩
        obtain ⟨y0, y1, y2, y3, y4, y5⟩ := frBox (boxB hb3)
        have HB3 := hide (((Below.refl _ w2).alloc (Nat.le_refl _) _).trans (hb3.mono (by simp)))
        clear hb3 K3
        go_wp2_with fail
        refine (unhide K4 _ (unhide HB3)).mono ?_
        rintro e w4 ⟨rfl, own4, h4, u4⟩
        have HR := hide (And.intro h4 (UpdT.new (w := w1) ((unhide HB).trans ((unhide HB3).mono (unhide HB).size)) u4 (unhide HT)))
        clear h4 u4 K4 HB3
        go_wp2
        go_ret
        dsimp only
        rw [unhide HD2]
        exact ⟨rfl, own4, (unhide HR).1, (unhide HR).2⟩
      | false =>
        have HD2 := hide ((unhide HD1).trans (congrArg (fun y => ((0 : Nat), y)) (if_neg (by simp))))
        clear HD1
        go_wp2_with fail
        refine (unhide K3 _ ?_).mono ?_
        · exact (Below.refl _ w2).alloc (Nat.le_refl _) _
        rintro e w3 ⟨rfl, hb3⟩
        have HB3 := hide (((Below.refl _ w2).alloc (Nat.le_refl _) _).trans (hb3.mono (by simp)))
        clear hb3 K3
        go_wp2
        go_ret
        dsimp only
        rw [unhide HD2]
        exact (unhide H).ans 0 ((unhide HB).trans ((unhide HB3).mono (unhide HB).size))
    · have HD2 := hide ((unhide HD).trans (if_pos he))
      have te : ((er : Int) == 0) = false := by simp; omega
      have te2 : ((er : Int) != 0) = true := by simp; omega
      clear HD he
      go_wp2
      go_ret
      dsimp only
      rw [unhide HD2]
      exact (unhide H).ans er ((unhide HB).trans (((Below.refl _ w2).alloc (Nat.le_refl _) _).mono (unhide HB).size))
end
end Go.Proofs.YtkalonhalhdlaaaDoor
