/-
  What one call of Bits does: of frames of 2 to 64 bytes it gives the text of bits of plain words (LPure: wireL); nothing that was there turns.
-/
import Derived.Test.YtkalonhalhdlaaaGreatDoorLBits
namespace Go.Proofs.YtkalonhalhdlaaaGreatDoor
open Go.RowKit

theorem kept_builder {T e : TypeId} {B b : Nat} {bs : List Value} {w w' : World} (h : Lib.IsBuilderF T e B b bs w) (hb : Below w.heap.size w w') : Lib.IsBuilderF T e B b bs w' := by
  have key : ∀ p, Lib.BuilderAtF T e B b p bs w → Lib.BuilderAtF T e B b p bs w' := by
    rintro p ⟨h1, v, h2, ⟨h3, h4⟩, h5⟩
    refine ⟨h1, v, ?_, ⟨h3, ?_⟩, h5⟩
    · rw [hb.block b (Array.getElem?_eq_some_iff.1 h2).1]; exact h2
    · rcases h4 with h4 | ⟨g, cap, cur, fz, e1, e2, e3, e4⟩
      · exact Or.inl h4
      · exact Or.inr ⟨g, cap, cur, fz, e1, e2, by rw [hb.block g (Array.getElem?_eq_some_iff.1 e3).1]; exact e3, e4⟩
  rcases h with h | h
  · exact Or.inl (key _ h)
  · exact Or.inr (key _ h)

theorem strCells_txt (l : List Bool) : Lib.strCells ⟨(txt l).toArray⟩ = Lib.byteCells (txt l) := by simp [Lib.strCells, Lib.byteCells]

theorem flag_cells : [] ++ Lib.strCells ⟨#[48, 49, 49, 49, 49, 49, 49, 48]⟩ = Lib.byteCells (txt flagL) := by simp [Lib.strCells, Lib.byteCells, flagL, txt, chr]

theorem txt_cat (a b : List Bool) : (⟨(txt a).toArray⟩ ++ ⟨(txt b).toArray⟩ : ByteArray) = ⟨(txt (a ++ b)).toArray⟩ := by
  rw [txt_append]
  apply ByteArray.ext
  show ByteArray.data (_ ++ _) = _
  rw [ByteArray.data_append]
  simp

/-- A list of frames in memory, a slice each. -/
def FramesAt (w : World) (fb fo : Nat) (fs : List (List UInt8)) : Prop :=
  ∀ i, i < fs.length → ∃ b off cap, w.cell? ⟨fb, fo + i, none⟩ = some (.slice (some ⟨b, off, none⟩) (fs.getD i []).length cap) ∧ b < w.heap.size ∧ Seg w b off (fs.getD i [])

theorem FramesAt.below {w w' : World} {fb fo : Nat} {fs : List (List UInt8)} (h : FramesAt w fb fo fs) {B : Nat} (hb : Below B w w') (hB : w.heap.size ≤ B) (hf : fb < w.heap.size) : FramesAt w' fb fo fs := by
  intro i hi
  obtain ⟨b, off, cap, h1, h2, h3⟩ := h i hi
  refine ⟨b, off, cap, ?_, Nat.lt_of_lt_of_le h2 hb.size, h3.below hb (by omega)⟩
  rw [hb.cell (p := ⟨fb, fo + i, none⟩) (by show fb < B; omega)]
  exact h1

set_option maxHeartbeats 2000000 in
set_option maxRecDepth 100000 in
theorem bits_some (fb fo cap : Nat) (fs : List (List UInt8)) (w : World) (hn : fs.length ≤ 1048576) (hfb : fb < w.heap.size) (hF : FramesAt w fb fo fs) (hlen : ∀ f ∈ fs, 2 ≤ f.length ∧ f.length ≤ 64) :
    Calls Tryz.prog 29 #[.slice (some ⟨fb, fo, none⟩) fs.length cap] w fun e w' => e = .returned (.tuple #[.string ⟨(txt (wireL fs)).toArray⟩, .int .i64 0]) ∧ Below w.heap.size w w' := by
  go_enter Tryz.func29, Tryz.ntmps29
  go_wp2
  go_loop [11] (fun i => ∃ k : Nat, k ≤ fs.length ∧ i = .int .i64 k) (fun i => fs.length - (intOf i).toNat)
  case atStart => exact ⟨0, Nat.zero_le _, rfl⟩
  case round =>
    obtain ⟨k, hk, rfl⟩ := hrel
    by_cases hlt : k < fs.length
    · obtain ⟨b, off, cap', hcell, _, _⟩ := hF k hlt
      have hfl := hlen (fs.getD k []) (by simp [List.getD, hlt])
      generalize fs.getD k [] = f at hcell hfl
      obtain ⟨hf1, hf2⟩ := hfl
      have g1 : ¬ ((f.length : Int) < 2) := by omega
      have g2 : ¬ ((64 : Int) < (f.length : Int)) := by omega
      go_wp2
      go_round
      case rel => exact ⟨k + 1, by omega, by go_num⟩
      case measure => simp [intOf]; omega
    · go_wp2_with fail
      clear hlt
      refine (writeString_any w.heap.size w.heap.size [] ⟨#[48, 49, 49, 49, 49, 49, 49, 48]⟩ _ (Lib.IsBuilderF.of (Lib.fresh_isBuilder 109 5 w)) (by decide) (by simp)).mono ?_
      rintro e W0 ⟨rfl, h0, b0, _⟩
      have hI0 : Lib.IsBuilderF 109 5 w.heap.size w.heap.size (Lib.byteCells (txt flagL)) W0 := by rw [← flag_cells]; exact Or.inr h0
      have hb0 : Below w.heap.size w W0 := ((Below.refl _ w).alloc (Nat.le_refl _) _).trans b0
      clear h0 b0
      go_wp2
      go_loopw [27] (fun i wr => ∃ (k : Nat) (acc : List Bool), k ≤ fs.length ∧ i = .int .i64 k ∧ Lib.IsBuilderF 109 5 w.heap.size w.heap.size (Lib.byteCells (txt acc)) wr ∧ Below w.heap.size w wr ∧ acc ++ framesL (fs.drop k) = wireL fs) (fun i _ => fs.length - (intOf i).toNat)
      case atStart => exact ⟨0, flagL, Nat.zero_le _, rfl, hI0, hb0, rfl⟩
      case round =>
        clear hI0 hb0
        obtain ⟨k, acc, hk, rfl, hI, hbw, hacc⟩ := hrel
        have hal : acc.length ≤ 8 + 1064 * fs.length := by
          have h1 := congrArg List.length hacc
          have h2 := framesL_length fs fun f hf => (hlen f hf).2
          simp [wireL, flagL] at h1
          omega
        have HA : Hid (acc ++ framesL (fs.drop k) = wireL fs) := hacc
        clear hacc
        by_cases hlt : k < fs.length
        · obtain ⟨b, off, cap', hcell, hbb, hseg⟩ := (hF.below hbw (Nat.le_refl _) hfb) k hlt
          have hfl := hlen (fs.getD k []) (by simp [List.getD, hlt])
          have hdrop : Hid (fs.drop k = fs.getD k [] :: fs.drop (k + 1)) := by
            show fs.drop k = fs.getD k [] :: fs.drop (k + 1)
            rw [List.drop_eq_getElem_cons hlt]; simp [List.getD, hlt]
          generalize fs.getD k [] = f at hcell hfl hseg hdrop
          obtain ⟨hf1, hf2⟩ := hfl
          have hs0 := hbw.size
          go_wp2_with fail
          refine (plainBits_any b off cap' f _ (by omega) hseg hbb).mono ?_
          rintro e w1 ⟨rfl, hb1⟩
          have hs1 := hb1.size
          go_wp2_with fail
          refine (sumOf_any b off cap' f _ (by unfold maxLen; omega) (hseg.below hb1 hbb)).mono ?_
          rintro e w2 ⟨rfl, rfl⟩
          have hb2 : Below w1.heap.size w1 (w1.alloc (sumObj f)) := (Below.refl _ _).alloc (Nat.le_refl _) _
          have hp2 := plainBits_any w1.heap.size 0 2 (sumB f) (w1.alloc (sumObj f)) (by rw [sumB_length]; omega) (sumObj_seg w1 f) (by simp)
          rw [sumB_length] at hp2
          have HP := hide hp2
          clear hp2
          go_wp2_with fail
          refine (unhide HP).mono ?_
          rintro e w3 ⟨rfl, hb3⟩
          clear HP
          have hcat : (txt (plainL f)).length + (txt (plainL (sumB f))).length ≤ 2000 := by rw [txt_length, txt_length, plainL_length, plainL_length, sumB_length]; omega
          go_wp2_with fail
          clear hcat
          rw [txt_cat]
          refine (stuffed_any (plainL f ++ plainL (sumB f)) _ (by rw [List.length_append, plainL_length, plainL_length, sumB_length]; omega)).mono ?_
          rintro e w4 ⟨rfl, hb4⟩
          have hs3 := hb3.size
          have hs4 := hb4.size
          have hall : Below wr.heap.size wr w4 := (hb1.trans ((hb2.mono (by omega)).trans (hb3.mono (by simp; omega)))).trans (hb4.mono (by simp at hs3; omega))
          have hI4 := kept_builder hI hall
          have hw4 : Below w.heap.size w w4 := hbw.trans (hall.mono hs0)
          have hs5 := hw4.size
          clear hb1 hb2 hb3 hb4 hs3 hs4 hall hI hbw hcell hseg
          go_wp2_with fail
          refine (writeString_any w.heap.size w.heap.size _ _ _ hI4 (by have := frameL_length f; rw [Lib.byteCells_length, txt_length, txt_size]; unfold frameL at this; omega) hs5).mono ?_
          rintro e w5 ⟨rfl, h5, b5, _⟩
          have hs6 := b5.size
          go_wp2_with fail
          refine (writeString_any w.heap.size w.heap.size _ ⟨#[48, 49, 49, 49, 49, 49, 49, 48]⟩ _ (Or.inr h5) (by have := frameL_length f; rw [List.length_append, Lib.strCells_length, Lib.byteCells_length, txt_length, txt_size]; unfold frameL at this; show _ + 8 ≤ _; omega) (by omega)).mono ?_
          rintro e w6 ⟨rfl, h6, b6, _⟩
          go_wp2
          go_roundw
          case rel =>
            refine ⟨k + 1, acc ++ frameL f ++ flagL, by omega, by go_num, ?_, (hw4.trans b5).trans b6, ?_⟩
            · rw [txt_append, txt_append, Lib.byteCells_append, Lib.byteCells_append, ← flag_cells, List.nil_append]
              rw [strCells_txt] at h6
              exact Or.inr h6
            · rw [← HA.out, hdrop.out, framesL]; simp
          case measure => simp [intOf]; omega
        · go_wp2_with fail
          refine (Tryz.Builder_String_any_k w.heap.size w.heap.size _ _ hI (by have := hbw.size; omega)).mono ?_
          rintro e W1 ⟨rfl, _, b1, _⟩
          go_wp2
          go_ret2
          have h := HA.out
          rw [List.drop_eq_nil_of_le (by omega), framesL, List.append_nil] at h
          rw [← h]
          exact ⟨rfl, hbw.trans b1⟩
set_option maxHeartbeats 2000000 in
set_option maxRecDepth 100000 in
theorem bits_none (p : Option Addr) (cap : Nat) (w : World) :
    Calls Tryz.prog 29 #[.slice p 0 cap] w fun e w' => e = .returned (.tuple #[.string ⟨(txt (wireL [])).toArray⟩, .int .i64 0]) ∧ Below w.heap.size w w' := by
  go_enter Tryz.func29, Tryz.ntmps29
  go_wp2
  go_loop [11] (fun i => i = .int .i64 0) (fun _ => 0)
  case atStart => rfl
  case round =>
    subst hrel
    go_wp2_with fail
    refine (writeString_any w.heap.size w.heap.size [] ⟨#[48, 49, 49, 49, 49, 49, 49, 48]⟩ _ (Lib.IsBuilderF.of (Lib.fresh_isBuilder 109 5 w)) (by decide) (by simp)).mono ?_
    rintro e W0 ⟨rfl, h0, b0, _⟩
    have hI0 : Lib.IsBuilderF 109 5 w.heap.size w.heap.size (Lib.byteCells (txt flagL)) W0 := by rw [← flag_cells]; exact Or.inr h0
    have hb0 : Below w.heap.size w W0 := ((Below.refl _ w).alloc (Nat.le_refl _) _).trans b0
    clear h0 b0
    go_wp2
    go_loop [27] (fun i => i = .int .i64 0) (fun _ => 0)
    case atStart => rfl
    case round =>
      subst hrel
      go_wp2_with fail
      refine (Tryz.Builder_String_any_k w.heap.size w.heap.size _ _ hI0 (by have := hb0.size; omega)).mono ?_
      rintro e W1 ⟨rfl, _, b1, _⟩
      go_wp2
      go_ret2
      exact ⟨rfl, hb0.trans b1⟩
end Go.Proofs.YtkalonhalhdlaaaGreatDoor
