/-
  What one call of message, gives does.
-/
import Derived.Test.YtkalonhalhdlaaaDoorKHands
import Derived.Test.YtkalonhalhdlaaaDoorLConv
namespace Go.Proofs.YtkalonhalhdlaaaDoor
open Go.RowKit

/-- The n-th message that station i is given. -/
def msgL (i n : Nat) : List UInt8 := [UInt8.ofNat i, UInt8.ofNat n, UInt8.ofNat (n / 256)]
theorem msgL_length (i n : Nat) : (msgL i n).length = 3 := rfl
theorem seg3 (w : World) (a b c : UInt8) : Seg (w.alloc (.cells #[.int .u8 (a.toNat : Int), .int .u8 (b.toNat : Int), .int .u8 (c.toNat : Int)] 5)) w.heap.size 0 [a, b, c] := by
  intro j hj
  rw [Lib.cell_of_heap (alloc1_a w _)]
  have h3 : j = 0 ∨ j = 1 ∨ j = 2 := by simp at hj; omega
  rcases h3 with rfl | rfl | rfl <;> rfl

set_option maxHeartbeats 4000000 in
set_option maxRecDepth 100000 in
theorem message_any (i n : Nat) (hi : i < 2) (w : World) :
    Calls Tryd.prog 51 #[.int .i64 i, .int .i64 n] w fun e w' => e = .returned (.string ⟨(msgL i n).toArray⟩) ∧ Below w.heap.size w w' := by
  have e1 : ((UInt8.ofNat i).toNat : Int) = (i : Int) := by simp; omega
  have e2 : ((UInt8.ofNat n).toNat : Int) = (n : Int) % 256 := by simp
  have e3 : ((UInt8.ofNat (n / 256)).toNat : Int) = (n : Int) / 256 % 256 := by simp
  have hcv := (SrcIs.conv (w := w.alloc (.cells #[.int .u8 ((UInt8.ofNat i).toNat : Int), .int .u8 ((UInt8.ofNat n).toNat : Int), .int .u8 ((UInt8.ofNat (n / 256)).toNat : Int)] 5)) (p := some ⟨w.heap.size, 0, none⟩) (l := msgL i n) (.inr ⟨_, 0, rfl, by rw [alloc1_s]; omega, seg3 w _ _ _⟩) 3)
  rw [e1, e2, e3, msgL_length] at hcv
  clear e1 e2 e3
  go_enter Tryd.func51, Tryd.ntmps51
  go_wp2
  go_ret
  exact ⟨rfl, (Below.refl _ w).alloc (Nat.le_refl _) _⟩

theorem infoStrS : (Tryd.prog.info? 9).map (fun i => (i.zero, i.size, i.bytes)) = some (some (.string ByteArray.empty), 1, 16) := by kernel_rfl
theorem one_str (s : ByteArray) : ∀ u ∈ [Value.string s], u.oneCell' = true := by
  intro u hu
  simp at hu
  subst hu
  rfl

section
variable {w w' : World} {own own' : Nat → Nat} {kb : Nat} {b : Nat → Nat} {c : Nat → Cfg} {s : Nat → St} {v g : Nat → Value} {l : Nat → List Msg} {n : Nat → List ByteArray} {t : Nat → Nat} {en : Bool}
/-- A list of messages has grown, and the link's block is written. -/
theorem KAt.given (h : KAt w own kb b c s v g l n t en) {i : Nat} (hi : i < 2) {g' : Value} {m : ByteArray} {w2 w3 : World} (hb2 : Below w.heap.size w w2) (hg : w2.grownBy w3 (g i).ownBlock)
    (hrow : w3.ownsRow 0 9 1 g' ((n i).length + 1) ((n i).map Value.string ++ [.string m])) (hob : g'.ownBlock = (g i).ownBlock ∨ g'.ownBlock = some w2.heap.size) :
    w3.heap[kb]? = some (.cells (lkCells b v g t en) 51 (0, 0)) ∧ KAt (w3.setCell ⟨kb, 4 + i, none⟩ g') (ownNew own w.heap.size w3.heap.size (tg 2 (3 + i))) kb b c s v (upd g i g') l (upd n i (n i ++ [m])) t en ∧ (∀ B, Lo B own → B.top ≤ w.heap.size → Lo B (ownNew own w.heap.size w3.heap.size (tg 2 (3 + i))) ∧ Bel B w (w3.setCell ⟨kb, 4 + i, none⟩ g')) := by
  have hz2 := hb2.size
  have hz3 := hg.size
  have hro : ∀ k, some k = (g i).ownBlock → own k = tg 2 (3 + i) := fun k hk => (h.giv i hi).2 k hk.symm
  have hK2 : Keeps (fun k => some k = (g i).ownBlock) w w3 := (Keeps.of hb2).trans (Keeps.grown hg)
  have hkb : ¬ some kb = (g i).ownBlock := fun e => by have := hro kb e; rw [h.ownk] at this; exact tg_ne (by omega) (by omega) (.inr (by omega)) this
  have hh : w3.heap[kb]? = some (.cells (lkCells b v g t en) 51 (0, 0)) := by rw [hK2.block kb h.lt hkb]; exact h.head
  refine ⟨hh, ?_⟩
  have hKb : Keeps (· = kb) w3 (w3.setCell ⟨kb, 4 + i, none⟩ g') := (Keeps.refl _ w3).setB _ _
  have hK : Keeps (fun k => some k = (g i).ownBlock ∨ k = kb) w (w3.setCell ⟨kb, 4 + i, none⟩ g') := (hK2.mono (fun _ h => .inl h)).trans (hKb.mono (fun _ h => .inr h))
  have hX : ∀ j q, q < 5 → (j ≠ 2 ∨ (q ≠ 0 ∧ q ≠ 3 + i)) → ∀ k, (some k = (g i).ownBlock ∨ k = kb) → own k ≠ tg j q := by
    intro j q hq hj k hk
    rcases hk with hk | hk
    · rw [hro k hk]; exact tg_ne (by omega) hq (by omega)
    · rw [hk, h.ownk]; exact tg_ne (by omega) hq (by omega)
  have hX0 : ∀ k, (some k = (g i).ownBlock ∨ k = kb) → own k ≠ 0 := by
    intro k hk
    rcases hk with hk | hk
    · rw [hro k hk]; exact tg_pos _ _
    · rw [hk, h.ownk]; exact tg_pos _ _
  have hold : ∀ k, k < w.heap.size → ownNew own w.heap.size w3.heap.size (tg 2 (3 + i)) k = own k := fun k hk => ownNew_old hk
  have hn' : ∀ k, (w3.setCell ⟨kb, 4 + i, none⟩ g').heap.size ≤ k → ownNew own w.heap.size w3.heap.size (tg 2 (3 + i)) k = 0 := fun k hk2 => ownNew_0 (by omega) (by rw [size_setCell] at hk2; exact hk2)
  refine ⟨⟨?_, (hold kb h.lt).trans h.ownk, fun j hj => (h.st j hj).others hK (fun k hk => ⟨hX0 k hk, fun p hp => hX j p hp (.inl (by omega)) k hk⟩) (fun k hk _ => hold k hk) hn', h.sok, fun j hj => (h.way j hj).keeps hK (fun k hk => ⟨hX 2 (1 + j) (by omega) (.inr (by omega)) k hk, hX0 k hk⟩) (fun k hk _ => hold k hk), ?_⟩, fun B hB hBw => hB.of hBw hK hX0 (fun k hk => .inl (hold k hk))⟩
  · have := block_set (j := 4 + i) hh g'
    rw [this]
    have hc : i = 0 ∨ i = 1 := by omega
    rcases hc with rfl | rfl <;> rfl
  · intro j hj
    by_cases e : j = i
    · subst e
      rw [upd_same, upd_same]
      have hob' : ∀ k, g'.ownBlock = some k → own k = tg 2 (3 + j) ∧ k < w.heap.size ∨ w.heap.size ≤ k := by
        intro k hk
        rcases hob with e | e
        · rw [e] at hk; exact .inl ⟨(h.giv j hj).2 k hk, (World.ownsRow.lt (h.giv j hj).1 k hk).2⟩
        · rw [e] at hk; simp at hk; omega
      refine ⟨?_, fun k hk => ?_⟩
      · rw [List.length_append, List.map_append]
        refine ownsRow_keepsB hrow hKb (fun k hk e => ?_)
        rcases hob' k hk with h1 | h1
        · rw [e, h.ownk] at h1; exact tg_ne (by omega) (by omega) (.inr (by omega)) h1.1
        · have := h.lt; omega
      · rcases hob' k hk with h1 | h1
        · rw [hold k h1.2]; exact h1.1
        · exact ownNew_new h1 (World.ownsRow.lt hrow k hk).2
    · rw [upd_other _ _ e, upd_other _ _ e]
      exact ⟨ownsRow_keepsB (h.giv j hj).1 hK (fun k hb hk => hX 2 (3 + j) (by omega) (.inr (by omega)) k hk ((h.giv j hj).2 k hb)), fun k hb => (hold k (World.ownsRow.lt (h.giv j hj).1 k hb).2).trans ((h.giv j hj).2 k hb)⟩
end

/-- What giving station i a message does. -/
def giveOk (c : Nat → Cfg) (s : Nat → St) (n : Nat → List ByteArray) (i : Nat) : Nat := (sendS (c i) (msgL i (n i).length) (s i)).1
def giveS (c : Nat → Cfg) (s : Nat → St) (n : Nat → List ByteArray) (i : Nat) : Nat → St := upd s i (sendS (c i) (msgL i (n i).length) (s i)).2
def giveN (c : Nat → Cfg) (s : Nat → St) (n : Nat → List ByteArray) (i : Nat) : Nat → List ByteArray := if giveOk c s n i = 0 then upd n i (n i ++ [⟨(msgL i (n i).length).toArray⟩]) else n

set_option maxHeartbeats 8000000 in
set_option maxRecDepth 100000 in
theorem gives_link {B : Fen} {w : World} {own : Nat → Nat} {kb : Nat} {b : Nat → Nat} {c : Nat → Cfg} {s : Nat → St} {v g : Nat → Value} {l : Nat → List Msg} {n : Nat → List ByteArray} {t : Nat → Nat} {en : Bool}
    (h : KAt w own kb b c s v g l n t en) (hlo : Lo B own) (hB : B.top ≤ w.heap.size) (i : Nat) (hi : i < 2) (hn : (n i).length ≤ 1000000) (ho : (s i).out.length + 18 ≤ 2199023255552) :
    Calls Tryd.prog 25 #[.pointer (some ⟨kb, 0, none⟩), .int .i64 i] w fun e w' => e = .returned (.bool (giveOk c s n i == 0 || giveOk c s n i == 7)) ∧ LinkIs B w kb b c (giveS c s n i) l (giveN c s n i) t en w' := by
  have hci : i = 0 ∨ i = 1 := by omega
  have cG : w.cell? ⟨kb, 4 + i, none⟩ = some (g i) := h.cell (4 + i) (by rcases hci with rfl | rfl <;> rfl)
  have cS : w.cell? ⟨kb, i, none⟩ = some (.pointer (some ⟨b i, 0, none⟩)) := h.cell i (by rcases hci with rfl | rfl <;> rfl)
  obtain ⟨gp, gc, hgv⟩ := row_slice (h.giv i hi).1
  rw [hgv] at cG
  have hlt := h.lt
  have k1 := message_any i (n i).length hi w
  have H := hide h
  have HLO := hide hlo
  have HGV := hide hgv
  clear h hlo hgv
  go_enter Tryd.func25, Tryd.ntmps25
  go_wp2_with fail
  refine k1.mono ?_
  rintro e w1 ⟨rfl, hb1⟩
  have h1 := (unhide H).later hb1
  have c1 : w1.cell? ⟨kb, i, none⟩ = some (.pointer (some ⟨b i, 0, none⟩)) := h1.cell i (by rcases hci with rfl | rfl <;> rfl)
  have hcv := conv_bytes w1 ⟨(msgL i (n i).length).toArray⟩
  have hb2 := bytesWorld_below w1 ⟨(msgL i (n i).length).toArray⟩
  have h2 := h1.later hb2
  have hseg := bytesWorld_seg w1 (msgL i (n i).length)
  have e3 : (⟨(msgL i (n i).length).toArray⟩ : ByteArray).size = 3 := rfl
  rw [e3] at hcv
  obtain ⟨ch, q, cm, o, ev, qe, ce, oe, hS⟩ := h2.st i hi
  have hlt2 : w1.heap.size < (Lib.bytesWorld w1 5 ⟨(msgL i (n i).length).toArray⟩).heap.size := by rw [Lib.bytesWorld_size]; omega
  have k2 := send1_any hS (some ⟨w1.heap.size, 0, none⟩) (grownCap w1 3 0 5) (msgL i (n i).length) (.inr ⟨_, 0, rfl, hlt2, hseg⟩) (by rw [msgL_length]; omega) ho
  simp only [Bool.false_eq_true, if_false, msgL_length] at k2
  have hok := sendS_ok (hS.cok) (h2.sok i hi) (msgL i (n i).length)
  have hB2 : B.top ≤ (Lib.bytesWorld w1 5 ⟨(msgL i (n i).length).toArray⟩).heap.size := Nat.le_trans hB (Nat.le_trans hb1.size hb2.size)
  have HBB := hide ((Bel.of hb1 hB).trans (Bel.of hb2 (Nat.le_trans hB hb1.size)))
  have H2 := hide h2
  have K2 := hide k2
  have HOK := hide hok
  have HE : Hid ((sendS (c i) (msgL i (n i).length) (s i)).1 = giveOk c s n i) := hide rfl
  have HSS : Hid (upd s i (sendS (c i) (msgL i (n i).length) (s i)).2 = giveS c s n i) := hide rfl
  clear k1 h1 hb1 hb2 h2 hseg k2 hS hok H e3
  go_wp2_with fail
  refine (unhide K2).mono ?_
  rintro e w3 ⟨rfl, own3, hS3, u3⟩
  have h3 := (unhide H2).called hi u3.f hS3 (unhide HOK)
  obtain ⟨hl3, hb3⟩ := (unhide HLO).updF hB2 u3.f
  have hb03 := (unhide HBB).trans hb3
  have hB3 : B.top ≤ w3.heap.size := Nat.le_trans hB hb03.size
  rw [unhide HSS] at h3
  have hdN : giveN c s n i = if giveOk c s n i = 0 then upd n i (n i ++ [⟨(msgL i (n i).length).toArray⟩]) else n := rfl
  rw [unhide HE]
  have HDN := hide hdN
  clear K2 hS3 u3 H2 HOK HLO HBB hb3 hcv hlt2 hB2 hdN
  generalize hger : giveOk c s n i = er at *
  generalize hgs : giveS c s n i = s' at *
  have HGER := hide hger
  have HGS := hide hgs
  clear hger hgs
  have cG3 : w3.cell? ⟨kb, 4 + i, none⟩ = some (.slice gp (n i).length gc) := by rw [← unhide HGV]; exact h3.cell (4 + i) (by rcases hci with rfl | rfl <;> rfl)
  have fz3 := h3.fz
  have hlt3 := h3.lt
  by_cases he : er = 0
  · subst he
    have HD2 := hide ((unhide HDN).trans (if_pos rfl))
    obtain ⟨i1, hi1, hy0, hy1, hy2⟩ := info_parts infoStrS
    have hrow := (h3.giv i hi).1
    rw [unhide HGV] at hrow
    have HO := hide (World.ownsRow.alloc (World.ownsRow.drew hrow) (.cells #[.string ⟨(msgL i (n i).length).toArray⟩] 9))
    have HO2 := hide (World.ownsRow.alloc hrow (.cells #[.string ⟨(msgL i (n i).length).toArray⟩] 9))
    have HM1 : Hid ((n i).length + 1 ≤ maxLen) := hide (by unfold maxLen; omega)
    have HM2 : Hid (((n i).length + 1) * 16 ≤ 140737488355328) := hide (by omega)
    have H3 := hide h3
    have HL3 := hide hl3
    have HB3 := hide hb03
    have hiI : (i : Int) < 2 := by omega
    clear h3 hl3 hb03 hrow HDN cG cS c1
    go_wp2_with fail
    go_region_law ((refine step_append_own_at _ (by rfl) _ _ 35 (by rfl) 0 9 i1 _ 1 16 Tryd.underlying35 hi1 hy0 hy1 hy2 rfl (by decide) _ _ _ (by rfl) (unhide HO) ⟨w3.heap.size, 0, none⟩ 1 1 [.string ⟨(msgL i (n i).length).toArray⟩] (by rfl) (by rfl) (cell_one_new _ _ _) (one_str _) (unhide HM1) (unhide HM2) (Nat.zero_le _) ?_; intro g5 w5 hrow5 hg5 hob5; obtain ⟨p5, cap5, hs5⟩ := row_slice hrow5; subst hs5; have hG := (unhide H3).given hi (w2 := (w3.drew).alloc (.cells #[.string ⟨(msgL i (n i).length).toArray⟩] 9)) (((Below.refl _ w3).drew).alloc (Nat.le_refl _) _) (by rw [unhide HGV]; exact hg5) hrow5 (by rw [unhide HGV]; exact hob5); have fz5 : ∀ j, w5.frozen? ⟨kb, j, none⟩ = false := (fun j => Lib.frozen_of_heap hG.1 j); have e4 : w5.cell? ⟨kb, 4 + i, none⟩ = some (.slice gp (n i).length gc) := (by rw [Lib.cell_of_heap hG.1, ← unhide HGV]; rcases hci with rfl | rfl <;> rfl)))
    all_goals
      have hlb := hG.2.2 B (unhide HL3) hB3
      have HR := hide (And.intro hG.2.1 (And.intro hlb.1 ((unhide HB3).trans hlb.2)))
      clear hG hlb hg5 hrow5 hob5 HO HO2
      go_wp2
      go_ret
      rw [unhide HD2, unhide HGER, unhide HGS]
      exact ⟨ret_bool rfl, _, v, _, (unhide HR).1, (unhide HR).2.1, (unhide HR).2.2⟩
  · have HD2 := hide ((unhide HDN).trans (if_neg he))
    have te : ((er : Int) == 0) = false := by simp; omega
    have H3 := hide (And.intro h3 (And.intro hl3 hb03))
    have her : Hid ((er == 0 || er == 7) = ((er : Int) == 7)) := hide (by rw [Bool.eq_iff_iff]; simp; omega)
    clear h3 hl3 hb03 HDN he cG cS c1
    go_wp2
    go_ret
    rw [unhide HD2, unhide HGER, unhide HGS]
    exact ⟨ret_bool (unhide her).symm, own3, v, g, (unhide H3).1, (unhide H3).2.1, (unhide H3).2.2⟩
end Go.Proofs.YtkalonhalhdlaaaDoor
