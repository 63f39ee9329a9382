/-
  Read and Hear at bytes of whatever length.
-/
import Derived.Test.YtkalonhalhdlaaaGreatDoorG06
namespace Go.Proofs.YtkalonhalhdlaaaGreatDoor
open Go.RowKit
set_option maxHeartbeats 2000000 in
set_option maxRecDepth 100000 in
theorem read_infoW (m k cb : Nat) (p : Option Addr) (n c : Nat) (w : World) (hk : 1 ≤ k) (hcb : cbN m k = cb) (hn : 1 + cb ≤ n) (hi : infoF m k (n - (1 + cb) : Nat) = false) (h63 : n ≤ 9223372036854775807)
    (hK : ∀ o, Calls Tryz.prog 83 #[.int .i64 m, .slice p n c] (w.alloc o) fun r w' => r = .returned (.tuple #[.int .i64 (k : Nat), .int .i64 0]) ∧ ∃ n, w' = (w.drewN n).alloc o) :
    Calls Tryz.prog 35 #[.int .i64 m, .slice p n c] w fun r w' => r = .returned (.tuple #[frZ, .int .i64 5]) ∧ Below w.heap.size w w' := by
  have c1 := fun w => controlBytes_any m k hk w
  have c2 := fun w => infoFits_any m k (n - (1 + cb) : Nat) w
  rw [hcb] at c1
  rw [hi] at c2
  have hlt : ¬ ((n : Int) < 1 + (cb : Int)) := by omega
  have hsub : ((n - (1 + cb) : Nat) : Int) = (n : Int) - (1 + (cb : Int)) := by omega
  rw [hsub] at c2
  clear hi hsub hcb
  have HK := hide hK
  clear hK
  go_enter Tryz.func35, Tryz.ntmps35
  go_wp2_with fail
  refine (unhide HK _).mono ?_
  clear HK
  rintro r W1 ⟨rfl, nd, rfl⟩
  obtain ⟨W0, hW0⟩ : ∃ W0, W0 = w.drewN nd := ⟨_, rfl⟩
  have hb0 : Below w.heap.size w W0 := by rw [hW0]; exact below_drewN (Below.refl w.heap.size w) _
  have hs0 : w.heap.size = W0.heap.size := by rw [hW0]; rfl
  rw [← hW0, hs0]
  clear hW0
  go_wp2_with fail
  refine (c1 _).mono ?_
  rintro r W1 ⟨rfl, rfl⟩
  go_wp2_with fail
  refine (c2 _).mono ?_
  rintro r W1 ⟨rfl, rfl⟩
  go_wp2
  exact bodyPost_ret (v := .tuple #[frZ, .int .i64 5]) (by simp [results, Tryz.results35, go_sem, frZ]) rfl ⟨rfl, hb0.alloc (by omega) _⟩
set_option maxHeartbeats 1000000 in
/-- Read, at whatever bytes. -/
theorem read_wide (m : Int) (p : Option Addr) (c : Nat) (l : List UInt8) (w : World) (hsrc : SrcIs w p l) (hC : Ctl w) (hs : 0 < w.heap.size) (hc : l.length ≤ c) (hc63 : c ≤ 9223372036854775807) :
    Calls Tryz.prog 35 #[.int .i64 m, .slice p l.length c] w fun e w' => ∃ q cp, e = .returned (.tuple #[.agg #[.int .i64 (readL m l).2.a, .int .i64 (readL m l).2.k, .bool (readL m l).2.p, .int .i64 (readL m l).2.ns, .int .i64 (readL m l).2.nr, .slice q (readL m l).2.info.length cp], .int .i64 ((readL m l).1 : Nat)]) ∧ w'.ownsRow w.heap.size 5 1 (.slice q (readL m l).2.info.length cp) (readL m l).2.info.length (Lib.byteCells (readL m l).2.info) ∧ ((readL m l).1 ≠ 0 → q = none) ∧ Below w.heap.size w w' := by
  have hK : ∀ o, Calls Tryz.prog 83 #[.int .i64 m, .slice p l.length c] (w.alloc o) fun e w' => e = .returned (.tuple #[.int .i64 ((kindL m l).1 : Nat), .int .i64 ((kindL m l).2 : Nat)]) ∧ ∃ n, w' = (w.drewN n).alloc o := fun o =>
    readKind_any m p c l (w.alloc o) (hsrc.below ((Below.refl _ w).alloc (Nat.le_refl _) o) (Nat.le_refl _)) (hC.below ((Below.refl _ w).alloc (Nat.le_refl _) o) hs)
  have fin : ∀ (e : Nat), e ≠ 0 → readL m l = (e, frNone) → (Calls Tryz.prog 35 #[.int .i64 m, .slice p l.length c] w fun r w' => r = .returned (.tuple #[frZ, .int .i64 (e : Nat)]) ∧ Below w.heap.size w w') → Calls Tryz.prog 35 #[.int .i64 m, .slice p l.length c] w fun e w' => ∃ q cp, e = .returned (.tuple #[.agg #[.int .i64 (readL m l).2.a, .int .i64 (readL m l).2.k, .bool (readL m l).2.p, .int .i64 (readL m l).2.ns, .int .i64 (readL m l).2.nr, .slice q (readL m l).2.info.length cp], .int .i64 ((readL m l).1 : Nat)]) ∧ w'.ownsRow w.heap.size 5 1 (.slice q (readL m l).2.info.length cp) (readL m l).2.info.length (Lib.byteCells (readL m l).2.info) ∧ ((readL m l).1 ≠ 0 → q = none) ∧ Below w.heap.size w w' := by
    intro e _ he hcall
    rw [he]
    refine hcall.mono ?_
    rintro r w' ⟨rfl, hb⟩
    exact ⟨none, 0, rfl, World.ownsRow_nil _ _ _ _, fun _ => rfl, hb⟩
  by_cases h2 : (kindL m l).2 = 0
  · obtain ⟨m', k, x, y, r, rfl, hm', rfl, hk, hk1, hk9⟩ := kindL_ok h2
    rw [hk, h2] at hK
    have hcb1 : cbN m' k = 1 ∨ cbN m' k = 2 := by unfold cbN; split <;> simp
    by_cases hsh : (x :: y :: r).length < 1 + cbN m' k
    · have hr : r = [] := List.eq_nil_of_length_eq_zero (by simp at hsh; omega)
      subst hr
      have hcb : cbN m' k = 2 := by simp at hsh; omega
      refine fin 2 (by omega) ?_ (read_short m' k _ p c w (by simp) hk1 hcb hK)
      simp [readL, h2, hk, hcb]
    · by_cases hi : infoF m' k ((x :: y :: r).length - (1 + cbN m' k) : Nat) = false
      · refine fin 5 (by omega) ?_ (read_infoW m' k _ p _ c w hk1 rfl (by omega) hi (by omega) hK)
        unfold readL
        simp only [h2, hk, Int.toNat_natCast]
        rw [if_neg (by simp), if_neg hsh, if_pos hi]
      · have hi' : infoF m' k ((y :: r).length - cbN m' k : Nat) = true := by
          have e : (y :: r).length - cbN m' k = (x :: y :: r).length - (1 + cbN m' k) := by simp; omega
          rw [e]
          exact eq_true_of_ne_false hi
        have hrd : readL m' (x :: y :: r) = (0, { ctlF m' k (y :: r) with a := x.toNat, info := (y :: r).drop (cbN m' k) }) := by
          unfold readL
          simp only [h2, hk, Int.toNat_natCast]
          rw [if_neg (by simp), if_neg hsh, if_neg hi]
          have e1 : (x :: y :: r).drop (1 + cbN m' k) = (y :: r).drop (cbN m' k) := by rw [Nat.add_comm]; rfl
          rw [e1]
          rfl
        have hr64 : (y :: r).length ≤ 1048576 := by
          unfold infoF repN at hi'
          split at hi'
          · have := of_decide_eq_true hi'; omega
          · split at hi'
            · have := eq_of_beq hi'; split at this <;> omega
            · have := eq_of_beq hi'; omega
        rcases hsrc with ⟨_, h0⟩ | ⟨b, off, rfl, hb, hseg⟩
        · simp at h0
        · rw [hrd]
          have e2 : ((y :: r).drop (cbN m' k)).length = (y :: r).length - cbN m' k := List.length_drop
          have e3 := ctlF_k m' k (y :: r)
          simp only [e2, e3]
          refine (read_ok m' k _ b off c _ x (y :: r) w hm' hk1 hk9 rfl (by simp at hsh ⊢; omega) hi' hr64 (by simpa using hc) hc63 hseg hb (by simp) hK).mono ?_
          rintro e w' ⟨q, cp, rfl, hown, hbl⟩
          exact ⟨q, cp, rfl, hown, fun h => absurd rfl h, hbl⟩
  · refine fin _ h2 ?_ (read_kind m _ (kindL m l).2 w h2 ?_)
    · simp [readL, h2]
    · rw [kindL_zero h2] at hK
      exact hK
section
variable {w W : World} {own : Nat → Nat} {i b : Nat} {c : Cfg} {s : St} {cl : Bool} {ch : Nat} {q cm o ev : Value} {qe ce oe : List Value}
set_option maxHeartbeats 4000000 in
set_option maxRecDepth 100000 in
theorem hear_wide (h : SAt w own i b c s cl ch q cm o ev qe ce oe) (p : Option Addr) (cp : Nat) (l : List UInt8) (hsrc : SrcIs w p l) (hcp : l.length ≤ cp) (hc63 : cp ≤ 9223372036854775807) (hvm : ahead c s s.vm ≤ s.queue.length) (hl : s.out.length + 18 ≤ 2199023255552) (hl2 : s.events.length + 2 ≤ 2199023255552) :
    Calls Tryz.prog 93 #[.pointer (some ⟨b, 0, none⟩), .slice p l.length cp] w fun e w' => Ans (if cl then 8 else (hearS c l s).1) i b c (if cl then s else (hearS c l s).2) cl own w e w' := by
  have hlt := h.lt
  have k1 := isClosed_any h
  cases cl with
  | true =>
    have H := hide h
    clear h
    go_enter Tryz.func93, Tryz.ntmps93
    go_wp2_with fail
    refine k1.mono ?_
    rintro e w1 ⟨rfl, hw1⟩
    subst hw1
    clear k1
    go_wp2
    go_ret
    exact (unhide H).ans 8 (Below.refl _ _)
  | false =>
    have c0 := h.c_m
    have hk2 := fun V (hV : Below w.heap.size w V) => read_wide (c.m : Int) p cp l V (hsrc.below hV (Nat.le_refl _)) (h.ctl.below hV h.pos) (Nat.lt_of_lt_of_le h.pos hV.size) hcp hc63
    have K2 := hide hk2
    have H := hide h
    clear h hk2 hsrc
    go_enter Tryz.func93, Tryz.ntmps93
    go_wp2_with fail
    refine k1.mono ?_
    rintro e w1 ⟨rfl, hw1⟩
    subst hw1
    clear k1
    go_wp2_with fail
    refine (unhide K2 _ (Below.refl _ _)).mono ?_
    rintro e w2 ⟨fq, fcp, rfl, hrow, _, hb⟩
    have hm := (unhide H).cok.m
    obtain ⟨nr, hnr1, hnr2⟩ := readL_nr c.m hm l
    have hdef : hearS c l s = if (readL c.m l).1 ≠ 0 then ((readL c.m l).1, s) else (0, if heeds c (readL c.m l).2 then hearFrame c (readL c.m l).2 s else s) := rfl
    generalize (readL c.m l).1 = er at *
    generalize (readL c.m l).2 = f at *
    obtain ⟨fa, fk, fp, ns, fnr, info⟩ := f
    simp only at hnr1 hrow hdef ⊢
    subst hnr1
    have hrow0 := ownsRow_mono hrow (Nat.zero_le _)
    have hfree : ∀ k, (Value.slice fq info.length fcp).ownBlock = some k → own k = 0 ∧ k ≠ 0 := fun k hk => by
      have h1 := World.ownsRow.lt hrow k hk
      exact ⟨(unhide H).new0 k h1.1, by have := (unhide H).pos; omega⟩
    have hTnew : ∀ k, (Value.slice fq info.length fcp).ownBlock = some k → w1.heap.size ≤ k := fun k hk => (World.ownsRow.lt hrow k hk).1
    have h2 := (unhide H).later hb
    have k3 := fun V (hV : Below w2.heap.size w2 V) => heeds_any (h2.later hV) ⟨fa, fk, fp, ns, (nr : Nat), info⟩ fq fcp
    have k4 := fun V (hV : Below w2.heap.size w2 V) => hearFrame_any (h2.later hV) fa fk fp ns nr info fq fcp hnr2 hvm (ownsRow_keepsB hrow0 (Keeps.of (X := fun _ => False) hV) (fun _ _ => id)) hfree hl hl2
    unfold frV at k3 k4
    simp only at k3 k4
    generalize hx : heeds c ⟨fa, fk, fp, ns, (nr : Nat), info⟩ = x at k3 hdef
    have K3 := hide k3
    have K4 := hide k4
    have HD := hide hdef
    have HB := hide hb
    have HT := hide hTnew
    clear h2 k3 k4 hdef hb hx hTnew hfree hrow0 hrow K2 hm
    by_cases he : er = 0
    · subst he
      have HD1 := hide ((unhide HD).trans (if_neg (by simp)))
      clear HD
      cases x with
      | true =>
        have HD2 := hide ((unhide HD1).trans (congrArg (fun y => ((0 : Nat), y)) (if_pos rfl)))
        clear HD1
        go_wp2_with fail
        refine (unhide K3 _ ?_).mono ?_
        · exact (Below.refl _ w2).alloc (Nat.le_refl _) _
        rintro e w3 ⟨rfl, hb3⟩
        obtain ⟨y0, y1, y2, y3, y4, y5⟩ := frBox (boxB hb3)
        have HB3 := hide (((Below.refl _ w2).alloc (Nat.le_refl _) _).trans (hb3.mono (by simp)))
        clear hb3 K3
        go_wp2_with fail
        refine (unhide K4 _ (unhide HB3)).mono ?_
        rintro e w4 ⟨rfl, own4, h4, u4⟩
        have HR := hide (And.intro h4 (UpdT.new (w := w1) ((unhide HB).trans ((unhide HB3).mono (unhide HB).size)) u4 (unhide HT)))
        clear h4 u4 K4 HB3
        go_wp2
        go_ret
        dsimp only
        rw [unhide HD2]
        exact ⟨rfl, own4, (unhide HR).1, (unhide HR).2⟩
      | false =>
        have HD2 := hide ((unhide HD1).trans (congrArg (fun y => ((0 : Nat), y)) (if_neg (by simp))))
        clear HD1
        go_wp2_with fail
        refine (unhide K3 _ ?_).mono ?_
        · exact (Below.refl _ w2).alloc (Nat.le_refl _) _
        rintro e w3 ⟨rfl, hb3⟩
        have HB3 := hide (((Below.refl _ w2).alloc (Nat.le_refl _) _).trans (hb3.mono (by simp)))
        clear hb3 K3
        go_wp2
        go_ret
        dsimp only
        rw [unhide HD2]
        exact (unhide H).ans 0 ((unhide HB).trans ((unhide HB3).mono (unhide HB).size))
    · have HD2 := hide ((unhide HD).trans (if_pos he))
      have te : ((er : Int) == 0) = false := by simp; omega
      have te2 : ((er : Int) != 0) = true := by simp; omega
      clear HD he
      go_wp2
      go_ret
      dsimp only
      rw [unhide HD2]
      exact (unhide H).ans er ((unhide HB).trans (((Below.refl _ w2).alloc (Nat.le_refl _) _).mono (unhide HB).size))
end
end Go.Proofs.YtkalonhalhdlaaaGreatDoor
