/-
  What one call of hands does to the link.
-/
import Derived.Test.YtkalonhalhdlaaaDoorKLinks
namespace Go.Proofs.YtkalonhalhdlaaaDoor
open Go.RowKit

/-- What handing over the first frame from i does. -/
def handOk (c : Nat → Cfg) (s : Nat → St) (l : Nat → List Msg) (i : Nat) (lost : Bool) : Bool :=
  match l i with
  | [] => true
  | m :: _ => lost || (hearS (c (1 - i)) m (s (1 - i))).1 == 0
def handS (c : Nat → Cfg) (s : Nat → St) (l : Nat → List Msg) (i : Nat) (lost : Bool) : Nat → St :=
  match l i with
  | [] => s
  | m :: _ => if lost then s else upd s (1 - i) (hearS (c (1 - i)) m (s (1 - i))).2
/-- A link's state behind a call. -/
def LinkIs (B : Fen) (w : World) (kb : Nat) (b : Nat → Nat) (c : Nat → Cfg) (s : Nat → St) (l : Nat → List Msg) (n : Nat → List ByteArray) (t : Nat → Nat) (en : Bool) (w' : World) : Prop :=
  ∃ own' v' g', KAt w' own' kb b c s v' g' l n t en ∧ Lo B own' ∧ Bel B w w'

theorem SrcIs.keeps {w w' : World} {p : Option Addr} {m : List UInt8} {n c : Nat} {X : Nat → Prop} (h : SrcIs w p m) (hk : Keeps X w w') (hx : ∀ k, (Value.slice p n c).ownBlock = some k → ¬ X k) : SrcIs w' p m := by
  rcases h with h | ⟨bb, off, rfl, h2, h3⟩
  · exact .inl h
  · exact .inr ⟨bb, off, rfl, Nat.lt_of_lt_of_le h2 hk.size, h3.keeps hk h2 (hx bb rfl)⟩
theorem hearS_ok {c : Cfg} {s : St} (hc : c.ok) (h : St.ok c s) (m : Msg) : St.ok c (hearS c m s).2 := by
  unfold hearS
  split
  · exact h
  · obtain ⟨nr, h1, h2⟩ := readL_nr c.m hc.m m
    split
    · exact hearFrame_ok hc h _ (by rw [h1]; simpa using h2)
    · exact h

set_option maxHeartbeats 8000000 in
set_option maxRecDepth 100000 in
theorem hands_link {B : Fen} {w : World} {own : Nat → Nat} {kb : Nat} {b : Nat → Nat} {c : Nat → Cfg} {s : Nat → St} {v g : Nat → Value} {l : Nat → List Msg} {n : Nat → List ByteArray} {t : Nat → Nat} {en : Bool}
    (h : KAt w own kb b c s v g l n t en) (hlo : Lo B own) (hB : B.top ≤ w.heap.size) (i : Nat) (hi : i < 2) (lost : Bool) (hml : ∀ m ∈ l i, m.length ≤ 1048576) (ho : (s (1 - i)).out.length + 18 ≤ 2199023255552) (he : (s (1 - i)).events.length + 2 ≤ 2199023255552) :
    Calls Tryd.prog 40 #[.pointer (some ⟨kb, 0, none⟩), .int .i64 i, .bool lost] w fun e w' => e = .returned (.bool (handOk c s l i lost)) ∧ LinkIs B w kb b c (handS c s l i lost) (upd l i (l i).tail) n t en w' := by
  have hci : i = 0 ∨ i = 1 := by omega
  have cW : w.cell? ⟨kb, 2 + i, none⟩ = some (v i) := h.cell (2 + i) (by rcases hci with rfl | rfl <;> rfl)
  have fz := h.fz
  cases hli : l i with
  | nil =>
    have hw := h.way i hi
    obtain ⟨p, cap, hv, _⟩ := hw
    rw [hli] at hv
    have e1 : handOk c s l i lost = true := by simp [handOk, hli]
    have e2 : handS c s l i lost = s := by simp [handS, hli]
    have HR : Hid (LinkIs B w kb b c (handS c s l i lost) (upd l i ([] : List Msg).tail) n t en w) := hide ⟨own, v, g, by
      rw [e2]
      refine h.congr (fun _ _ => rfl) (fun j _ => ?_)
      by_cases e : j = i
      · subst e
        rw [upd_same, hli]
        rfl
      · rw [upd_other _ _ e], hlo, Bel.refl _ _⟩
    rw [e1]
    rw [hv] at cW
    clear h hlo e1 e2 hv hli
    go_enter Tryd.func40, Tryd.ntmps40
    go_wp2
    go_ret
    exact ⟨rfl, unhide HR⟩
  | cons m r =>
    have hw := h.way i hi
    rw [hli] at hw
    obtain ⟨gw, off, cap, hv, hc1, hc2, ⟨p, pc, hcell, hsrc, hp1, hp2, hpo⟩, htl⟩ := hw.tail
    have hmm := hml m (by rw [hli]; exact List.mem_cons_self)
    rw [hv] at cW
    have hSj := h.st (1 - i) (by omega)
    have cS : w.cell? ⟨kb, 1 - i, none⟩ = some (.pointer (some ⟨b (1 - i), 0, none⟩)) := h.cell (1 - i) (by rcases hci with rfl | rfl <;> rfl)
    -- the first one is cut off
    have hoff : ∃ off', (if cap = 1 then (some ⟨gw, off, none⟩ : Option Addr) else some ⟨gw, off + 1, none⟩) = some ⟨gw, off', none⟩ ∧ (off' = off + 1 ∨ (cap = 1 ∧ off' = off)) := by
      by_cases e : cap = 1
      · exact ⟨off, by rw [if_pos e], .inr ⟨e, rfl⟩⟩
      · exact ⟨off + 1, by rw [if_neg e], .inl rfl⟩
    obtain ⟨off', hoe, hoc⟩ := hoff
    have hcut : KAt ((w.setCell ⟨kb, 2 + i, none⟩ (.slice (some ⟨gw, off', none⟩) r.length (cap - 1))).drew) own kb b c s (upd v i (.slice (some ⟨gw, off', none⟩) r.length (cap - 1))) g (upd l i r) n t en :=
      ((h.wayed hi (w2 := w) (own2 := own) (htl off' hoc) (Keeps.refl _ _) (fun _ _ => rfl) (h.st 0 (by omega)).new0).2).later ((Below.refl _ _).drew)
    have hlow : Bel B w ((w.setCell ⟨kb, 2 + i, none⟩ (.slice (some ⟨gw, off', none⟩) r.length (cap - 1))).drew) := (Bel.keeps hlo hB ((Keeps.refl (· = kb) w).setB (2 + i) _) (fun k hk => by rw [hk, h.ownk]; exact tg_pos _ _)).drew
    have hsrc2 : SrcIs ((w.setCell ⟨kb, 2 + i, none⟩ (.slice (some ⟨gw, off', none⟩) r.length (cap - 1))).drew) p m := hsrc.keeps (n := m.length) (c := pc) (((Keeps.refl (· = kb) w).setB (2 + i) _).drew) (fun k hk e => by have := hpo k hk; rw [e, h.ownk] at this; exact tg_pos _ _ this)
    have hsokj := h.sok (1 - i) (by omega)
    have hok2 := hearS_ok (hSj.own0.2.2.2) hsokj m
    have hdefS : handS c s l i lost = if lost then s else upd s (1 - i) (hearS (c (1 - i)) m (s (1 - i))).2 := by simp [handS, hli]
    have hdefO : handOk c s l i lost = (lost || (hearS (c (1 - i)) m (s (1 - i))).1 == 0) := by simp [handOk, hli]
    have HC := hide hcut
    have HLOW := hide hlow
    have HS := hide hdefS
    have HO := hide hdefO
    have HLO := hide hlo
    have HSRC := hide hsrc2
    have HOK := hide hok2
    have HSO := hide hsokj
    have HOE := hide hoe
    clear hw hv htl hcut hlow hdefS hdefO hlo hsrc hsrc2 hSj hok2 hsokj hml h hli hoe hpo hoc
    unfold maxLen at hc2 hp2
    go_enter Tryd.func40, Tryd.ntmps40
    go_wp2_with fail
    go_region
    rw [unhide HOE]
    have hS1 := (unhide HC).st (1 - i) (by omega)
    have c1 : ((w.setCell ⟨kb, 2 + i, none⟩ (.slice (some ⟨gw, off', none⟩) r.length (cap - 1))).drew).cell? ⟨kb, 1 - i, none⟩ = some (.pointer (some ⟨b (1 - i), 0, none⟩)) := (unhide HC).cell (1 - i) (by rcases hci with rfl | rfl <;> rfl)
    have hB1 : B.top ≤ ((w.setCell ⟨kb, 2 + i, none⟩ (.slice (some ⟨gw, off', none⟩) r.length (cap - 1))).drew).heap.size := Nat.le_trans hB (unhide HLOW).size
    generalize ((w.setCell ⟨kb, 2 + i, none⟩ (.slice (some ⟨gw, off', none⟩) r.length (cap - 1))).drew) = W1 at *
    clear cW fz hcell cS HOE
    cases lost with
    | true =>
      have HS2 := hide ((unhide HS).trans (if_pos rfl))
      clear hS1
      go_wp2
      go_ret
      rw [unhide HO, unhide HS2]
      exact ⟨rfl, own, _, g, unhide HC, unhide HLO, unhide HLOW⟩
    | false =>
      have HS2 := hide ((unhide HS).trans (if_neg (by simp)))
      clear HS
      obtain ⟨ch, q, cm, o, ev, qe, ce, oe, hS⟩ := hS1
      have k1 := hear_any hS p pc m (unhide HSRC) hmm hp1 (by omega) (unhide HSO).svm ho he
      simp only [Bool.false_eq_true, if_false] at k1
      have ec : ((1 : Int) - (i : Int)) = ((1 - i : Nat) : Int) := by omega
      have K1 := hide k1
      clear k1 hS
      have hix : ((1 - i : Nat) : Int) < 2 := by omega
      go_wp2_with fail
      refine (unhide K1).mono ?_
      rintro e w2 ⟨rfl, own2, h2, u2⟩
      have hk2 := (unhide HC).called (by omega) u2.f h2 (unhide HOK)
      obtain ⟨hl2, hb2⟩ := (unhide HLO).updF hB1 u2.f
      have HR := hide (And.intro hk2 (And.intro hl2 ((unhide HLOW).trans hb2)))
      clear K1 h2 u2 hk2 hl2 hb2 HC HLO HLOW HSRC HSO HOK
      generalize (hearS (c (1 - i)) m (s (1 - i))).1 = er at *
      go_wp2
      go_ret
      rw [unhide HO, unhide HS2]
      refine ⟨ret_bool ?_, own2, _, g, (unhide HR).1, (unhide HR).2.1, (unhide HR).2.2⟩
      rw [Bool.eq_iff_iff]
      simp
end Go.Proofs.YtkalonhalhdlaaaDoor
