/-
  What one call of takes does to the link.
-/
import Derived.Test.YtkalonhalhdlaaaDoorKGives
namespace Go.Proofs.YtkalonhalhdlaaaDoor
open Go.RowKit

theorem Bel.drewN {B : Fen} {w w' : World} (h : Bel B w w') (n : Nat) : Bel B w (w'.drewN n) := ⟨below_drewN h.below n, h.ext⟩

/-- Of what came, so many are the next that were given. -/
def takeL : List Msg → List ByteArray → Nat → Bool × Nat
  | [], _, t => (true, t)
  | m :: r, gs, t => if gs[t]? = some ⟨m.toArray⟩ then takeL r gs (t + 1) else (false, t)

section
variable {w w' : World} {own own' : Nat → Nat} {kb : Nat} {b : Nat → Nat} {c : Nat → Cfg} {s : Nat → St} {v g : Nat → Value} {l : Nat → List Msg} {n : Nat → List ByteArray} {t : Nat → Nat} {en : Bool}
theorem KAt.tooked (h : KAt w own kb b c s v g l n t en) {i x : Nat} (hi : i < 2) : KAt (w.setCell ⟨kb, 6 + i, none⟩ (.int .i64 x)) own kb b c s v g l n (upd t i x) en := by
  refine h.wrote (en' := en) ((Keeps.refl _ w).setB (6 + i) _) ?_
  have := block_set (j := 6 + i) h.head (.int .i64 x)
  rw [this]
  have hc : i = 0 ∨ i = 1 := by omega
  rcases hc with rfl | rfl <;> rfl
end

theorem bytes_toList (gm : ByteArray) : gm = ⟨gm.toList.toArray⟩ := by
  apply Go.WideShapes.bytes_inj
  rw [ByteArray.toList_eq]

/-- Amid the taking. -/
def TakeInv (B : Fen) (w : World) (kb : Nat) (b : Nat → Nat) (c : Nat → Cfg) (s : Nat → St) (v g : Nat → Value) (l : Nat → List Msg) (n : Nat → List ByteArray) (t : Nat → Nat) (en : Bool) (x : Value) (ce : List Value) (came : List Msg) (wr : World) : Prop :=
  ∃ own', KAt wr own' kb b c s v g l n t en ∧ Lst wr own' 0 x ce came ∧ Lo B own' ∧ Bel B w wr
theorem TakeInv.later {B : Fen} {w : World} {kb : Nat} {b : Nat → Nat} {c : Nat → Cfg} {s : Nat → St} {v g : Nat → Value} {l : Nat → List Msg} {n : Nat → List ByteArray} {t : Nat → Nat} {en : Bool} {x : Value} {ce : List Value} {came : List Msg} {wr wr' : World}
    (h : TakeInv B w kb b c s v g l n t en x ce came wr) (hB : B.top ≤ w.heap.size) (hb : Below wr.heap.size wr wr') : TakeInv B w kb b c s v g l n t en x ce came wr' := by
  obtain ⟨own', h1, h2, h3, h4⟩ := h
  exact ⟨own', h1.later hb, h2.keeps (X := fun _ => False) (Keeps.of hb) (fun _ hX => absurd hX id) (fun _ _ => rfl), h3, h4.trans (Bel.of hb (Nat.le_trans hB h4.size))⟩

set_option maxHeartbeats 8000000 in
set_option maxRecDepth 100000 in
theorem takes_link {B : Fen} {w : World} {own : Nat → Nat} {kb : Nat} {b : Nat → Nat} {c : Nat → Cfg} {s : Nat → St} {v g : Nat → Value} {l : Nat → List Msg} {n : Nat → List ByteArray} {t : Nat → Nat} {en : Bool}
    (h : KAt w own kb b c s v g l n t en) (hlo : Lo B own) (hB : B.top ≤ w.heap.size) (i : Nat) (hi : i < 2) (ht : t (1 - i) ≤ 1000000) (hn : (n (1 - i)).length ≤ 1000000) (ho : (s i).out.length + 18 ≤ 2199023255552) :
    Calls Tryd.prog 28 #[.pointer (some ⟨kb, 0, none⟩), .int .i64 i] w fun e w' => e = .returned (.bool (takeL (s i).came (n (1 - i)) (t (1 - i))).1) ∧ LinkIs B w kb b c (upd s i (takenS (c i) (s i))) l n (upd t (1 - i) (takeL (s i).came (n (1 - i)) (t (1 - i))).2) en w' := by
  have hci : i = 0 ∨ i = 1 := by omega
  have cS : w.cell? ⟨kb, i, none⟩ = some (.pointer (some ⟨b i, 0, none⟩)) := h.cell i (by rcases hci with rfl | rfl <;> rfl)
  obtain ⟨ch, q, cm, o, ev, qe, ce, oe, hS⟩ := h.st i hi
  obtain ⟨mp, mcap, hcm, hm1, hm2⟩ := hS.lcm.slice
  have hroom := hS.sok.came
  have hr16 := hS.cok.room16
  subst hcm
  have k1 := taken_any hS ho
  simp only [Bool.false_eq_true, if_false] at k1
  have hok := takenS_ok (h.sok i hi)
  have K1 := hide k1
  have H := hide h
  have HLO := hide hlo
  have HOK := hide hok
  clear k1 h hlo hok hS
  have hiI : (i : Int) < 2 := by omega
  have ec : ((1 : Int) - (i : Int)) = ((1 - i : Nat) : Int) := by omega
  have hix : ((1 - i : Nat) : Int) < 2 := by omega
  have hwr : IntKind.i64.wrap ((1 - i : Nat) : Int) = ((1 - i : Nat) : Int) := by rcases hci with rfl | rfl <;> decide
  go_enter Tryd.func28, Tryd.ntmps28
  go_wp2_with fail
  refine (unhide K1).mono ?_
  rintro e w1 ⟨rfl, own1, hS1, hL1, hu1⟩
  have h1 := (unhide H).called hi hu1 hS1 (unhide HOK)
  obtain ⟨hl1, hb1⟩ := (unhide HLO).updF hB hu1
  have HI : Hid (TakeInv B w kb b c (upd s i (takenS (c i) (s i))) v g l n (upd t (1 - i) (t (1 - i) + 0)) en (.slice mp (s i).came.length mcap) ce (s i).came w1) := hide ⟨own1, ⟨by
      have := h1.head
      rw [this]
      have e1 : lkCells b v g t en = lkCells b v g (upd t (1 - i) (t (1 - i) + 0)) en := by
        rcases hci with rfl | rfl <;> rfl
      rw [e1], h1.ownk, h1.st, h1.sok, h1.way, h1.giv⟩, hL1, hl1, hb1⟩
  clear K1 hS1 hL1 hu1 h1 hl1 hb1 H HLO HOK cS
  go_wp2
  go_loopg [7] ((s i).came.length + 1) (fun k j wr => ∃ J : Nat, J + k = (s i).came.length + 1 ∧ 1 ≤ k ∧ j = .int .i64 J ∧ takeL (s i).came (n (1 - i)) (t (1 - i)) = takeL ((s i).came.drop J) (n (1 - i)) (t (1 - i) + J) ∧ TakeInv B w kb b c (upd s i (takenS (c i) (s i))) v g l n (upd t (1 - i) (t (1 - i) + J)) en (.slice mp (s i).came.length mcap) ce (s i).came wr)
  case atStart => exact ⟨0, by omega, by omega, rfl, rfl, unhide HI⟩
  case round =>
    obtain ⟨J, hJ1, hJ2, rfl, hT, own2, h2, hL2, hl2, hb2⟩ := hrel
    have HT := hide hT
    clear hT HI
    by_cases hJ : J < (s i).came.length
    · obtain ⟨gl, capl, p, pc, hve, hcell, hsrc, _, _⟩ := hL2.at J hJ
      simp only [Value.slice.injEq] at hve
      obtain ⟨rfl, _, rfl⟩ := hve
      have cT : wr.cell? ⟨kb, 6 + (1 - i), none⟩ = some (.int .i64 (t (1 - i) + J : Nat)) := h2.cell (6 + (1 - i)) (by rcases hci with rfl | rfl <;> rfl)
      have cG : wr.cell? ⟨kb, 4 + (1 - i), none⟩ = some (g (1 - i)) := h2.cell (4 + (1 - i)) (by rcases hci with rfl | rfl <;> rfl)
      have hgr := (h2.giv (1 - i) (by omega)).1
      obtain ⟨gp, gc, hgv⟩ := row_slice hgr
      rw [hgv] at cG hgr
      obtain ⟨gg, hgg⟩ : ∃ gg, (0 < (n (1 - i)).length → gp = some ⟨gg, 0, none⟩) := by
        rcases hgr.2 with ⟨h0, h00⟩ | ⟨g0, cap0, cur0, h0, _⟩
        · exact ⟨0, fun hh => by omega⟩
        · simp only [Value.slice.injEq] at h0
          exact ⟨g0, fun _ => h0.1⟩
      have hcv := fun N => (hsrc.keeps (n := 0) (c := 0) (w' := wr.drewN N) ((Keeps.refl (fun _ => False) wr).drewN N) (fun _ _ => id)).conv pc
      have hdr : (s i).came.drop J = (s i).came.getD J [] :: (s i).came.drop (J + 1) := by
        rw [List.drop_eq_getElem_cons hJ]
        simp [List.getD, hJ]
      generalize (s i).came.getD J [] = m at hcell hsrc hcv hdr
      have hT2 := unhide HT
      rw [hdr] at hT2
      simp only [takeL] at hT2
      have HT2 := hide hT2
      have H2 := hide (And.intro h2 (And.intro hL2 (And.intro hl2 hb2)))
      have fz := h2.fz
      clear h2 hL2 hl2 hb2 HT hT2 hdr hsrc
      by_cases hg : t (1 - i) + J < (n (1 - i)).length
      · have hgp := hgg (by omega)
        subst hgp
        clear hgg
        have hgc : wr.cell? ⟨gg, t (1 - i) + J, none⟩ = some (.string ((n (1 - i)).getD (t (1 - i) + J) ByteArray.empty)) := by
          rw [hgr.cellAt _ (by omega)]
          simp [List.getD, hg]
        have hge : ¬ ((n (1 - i)).length : Int) ≤ ((t (1 - i) + J : Nat) : Int) := by omega
        have hgI : ((t (1 - i) + J : Nat) : Int) < ((n (1 - i)).length : Int) := by omega
        have hJI : (J : Int) < ((s i).came.length : Int) := by omega
        have hgn : (n (1 - i))[t (1 - i) + J]? = some ((n (1 - i)).getD (t (1 - i) + J) ByteArray.empty) := by simp [List.getD, hg]
        generalize (n (1 - i)).getD (t (1 - i) + J) ByteArray.empty = gm at hgc hgn
        have hbd : t (1 - i) + J ≤ 1000000 := by omega
        by_cases hm : gm = ⟨m.toArray⟩
        · have HT3 := hide ((unhide HT2).trans (if_pos (by rw [hgn, hm])))
          have HFIN : Hid (∀ N, TakeInv B w kb b c (upd s i (takenS (c i) (s i))) v g l n (upd t (1 - i) (t (1 - i) + (J + 1))) en (.slice (some ⟨gl, 0, none⟩) (s i).came.length mcap) ce (s i).came ((wr.drewN N).setCell ⟨kb, 6 + (1 - i), none⟩ (.int .i64 (t (1 - i) + (J + 1) : Nat)))) := hide (by
            intro N
            obtain ⟨h20, hL20, hl2, hb20⟩ := unhide H2
            have h2 := h20.later (below_drewN (Below.refl _ wr) N)
            have hL2 := hL20.keeps (X := fun _ => False) (own' := own2) ((Keeps.refl _ wr).drewN N) (fun _ hX => absurd hX id) (fun _ _ => rfl)
            have hb2 := hb20.drewN N
            have h3 := h2.tooked (i := 1 - i) (x := t (1 - i) + (J + 1)) (by omega)
            refine ⟨own2, ⟨?_, h3.ownk, h3.st, h3.sok, h3.way, h3.giv⟩, hL2.keeps ((Keeps.refl (· = kb) (wr.drewN N)).setB _ _) (fun k hk => by rw [hk, h2.ownk]; exact tg_pos _ _) (fun _ _ => rfl), hl2, hb2.trans (Bel.keeps hl2 (Nat.le_trans hB hb2.size) ((Keeps.refl (· = kb) (wr.drewN N)).setB _ _) (fun k hk => by rw [hk, h2.ownk]; exact tg_pos _ _))⟩
            rw [h3.head]
            have e1 : lkCells b v g (upd (upd t (1 - i) (t (1 - i) + J)) (1 - i) (t (1 - i) + (J + 1))) en = lkCells b v g (upd t (1 - i) (t (1 - i) + (J + 1))) en := by
              rcases hci with rfl | rfl <;> rfl
            rw [e1])
          clear HT2 H2 hgn
          generalize hsu : t (1 - i) + (J + 1) = tk at *
          have hsu2 : ((tk : Nat) : Int) = ((t (1 - i) + J : Nat) : Int) + 1 := by omega
          have HSU := hide hsu
          have HSU2 := hide hsu2
          clear hsu hsu2
          generalize t (1 - i) + J = tj at *
          go_wp2_with fail
          go_quiet (fail)
          go_wp2_with fail
          go_region
          all_goals go_wp2
          all_goals
            have hF2 := unhide HFIN (nq + 1)
            rw [unhide HSU2] at hF2
            have HF3 := hide hF2
            clear hF2 HFIN
            go_roundg (gk - 1)
            case measure => omega
            case rel => exact ⟨J + 1, by omega, by omega, by go_num, by rw [unhide HT3, unhide HSU], by rw [unhide HSU]; exact unhide HF3⟩
        · have HF : Hid (takeL (s i).came (n (1 - i)) (t (1 - i)) = (false, t (1 - i) + J)) := hide (by rw [unhide HT2, hgn, if_neg (by simpa using hm)])
          have hm2 : (m == gm.toList) = false := by
            rw [beq_eq_false_iff_ne]
            intro e
            apply hm
            rw [e]
            exact bytes_toList gm
          clear HT2 hgn
          generalize t (1 - i) + J = tj at *
          go_wp2_with fail
          go_quiet (fail)
          go_wp2
          go_ret
          rw [unhide HF]
          exact ⟨rfl, own2, v, g, (unhide H2).1.later (below_drewN (Below.refl _ wr) _), (unhide H2).2.2.1, (unhide H2).2.2.2.drewN _⟩
      · have hn0 : (n (1 - i))[t (1 - i) + J]? = none := by simp; omega
        have hge : ((n (1 - i)).length : Int) ≤ ((t (1 - i) + J : Nat) : Int) := by omega
        have HF : Hid (takeL (s i).came (n (1 - i)) (t (1 - i)) = (false, t (1 - i) + J)) := hide (by rw [unhide HT2, hn0, if_neg (by simp)])
        clear HT2 hn0
        generalize t (1 - i) + J = tj at *
        go_wp2
        go_quiet (fail)
        go_wp2
        go_ret
        rw [unhide HF]
        exact ⟨rfl, own2, v, g, (unhide H2).1.later (below_drewN (Below.refl _ wr) _), (unhide H2).2.2.1, (unhide H2).2.2.2.drewN _⟩
    · have hJ3 : J = (s i).came.length := by omega
      have HF : Hid (takeL (s i).came (n (1 - i)) (t (1 - i)) = (true, t (1 - i) + J)) := hide (by rw [unhide HT, hJ3, List.drop_length]; rfl)
      have H2 := hide (And.intro h2 (And.intro hl2 hb2))
      clear h2 hL2 hl2 hb2 HT
      go_wp2
      go_ret
      rw [unhide HF]
      exact ⟨rfl, own2, v, g, (unhide H2).1, (unhide H2).2.1, (unhide H2).2.2⟩
end Go.Proofs.YtkalonhalhdlaaaDoor
