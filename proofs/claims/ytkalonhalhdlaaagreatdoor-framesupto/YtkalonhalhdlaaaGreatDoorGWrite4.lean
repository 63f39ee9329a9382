/-
  What one call of the document's own Write does, at whatever numbers.
-/
import Derived.Test.YtkalonhalhdlaaaGreatDoorGWrite3
namespace Go.Proofs.YtkalonhalhdlaaaGreatDoor
open Go.RowKit

/-- The document's own Write, at whatever numbers. -/
theorem refWrite_any (m : Int) (f : Fr) (q : Option Addr) (c : Nat) (w : World) (hsrc : SrcE w q f.info) :
    Calls Tryz.prog 33 #[.int .i64 m, frV f q c] w fun e w' => ∃ v, e = .returned (.tuple #[v, .int .i64 ((writeL m f).1 : Nat)]) ∧ w'.ownsRow w.heap.size 5 1 v (writeL m f).2.length (Lib.byteCells (writeL m f).2) ∧ ((writeL m f).1 ≠ 0 → v = .slice none 0 0) ∧ Below w.heap.size w w' := by
  unfold frV writeL
  by_cases h1 : (isMod m && isKd f.k && numF m f.ns (hasS f.k) && numF m f.nr (hasR f.k)) = false
  · rw [if_pos h1]
    by_cases h0 : (isMod m && isKd f.k) = true
    · have hn : (numF m f.ns (hasS f.k) && numF m f.nr (hasR f.k)) = false := by
        rw [h0, Bool.and_assoc, Bool.true_and] at h1
        exact h1
      refine (refWrite_arg2 m f.a f.k f.ns f.nr f.p _ w h0 hn).mono ?_
      rintro e w' ⟨rfl, hb⟩
      exact ⟨_, rfl, owns_nil _ _, fun _ => rfl, hb⟩
    · refine (refWrite_arg1 m f.a f.k f.ns f.nr f.p _ w (Bool.eq_false_iff.2 h0)).mono ?_
      rintro e w' ⟨rfl, hb⟩
      exact ⟨_, rfl, owns_nil _ _, fun _ => rfl, hb⟩
  · rw [if_neg h1]
    have h1' : (isMod m && isKd f.k && (numF m f.ns (hasS f.k) && numF m f.nr (hasR f.k))) = true := by rw [← Bool.and_assoc]; exact eq_true_of_ne_false h1
    have h0 : (isMod m && isKd f.k) = true := by simp only [Bool.and_eq_true] at h1' ⊢; exact h1'.1
    have hn0 : (numF m f.ns (hasS f.k) && numF m f.nr (hasR f.k)) = true := by simp only [Bool.and_eq_true] at h1' ⊢; exact h1'.2
    by_cases h2 : isAddr f.a = false
    · rw [if_pos h2]
      refine (refWrite_addr m f.a f.k f.ns f.nr f.p _ w h0 hn0 h2).mono ?_
      rintro e w' ⟨rfl, hb⟩
      exact ⟨_, rfl, owns_nil _ _, fun _ => rfl, hb⟩
    · rw [if_neg h2]
      have h2' : isAddr f.a = true := by simpa using h2
      by_cases h3 : infoF m f.k f.info.length = false
      · rw [if_pos h3]
        refine (refWrite_info m f.a f.k f.ns f.nr f.p q f.info.length c w h0 hn0 h2' h3).mono ?_
        rintro e w' ⟨rfl, hb⟩
        exact ⟨_, rfl, owns_nil _ _, fun _ => rfl, hb⟩
      · rw [if_neg h3]
        have h3' : infoF m f.k f.info.length = true := by simpa using h3
        obtain ⟨m', k', ns', nr', em, ek, es, er, ok⟩ := numOk_of h1'
        rw [em, ek, es, er]
        rw [em, ek] at h3'
        refine (refWrite_ok m' k' ns' nr' f.a f.p q f.info c w ok h2' h3' hsrc).mono ?_
        rintro e w' ⟨v, rfl, hown, hb⟩
        refine ⟨v, rfl, ?_, fun h => absurd rfl h, hb⟩
        simp only [Int.toNat_natCast]
        have e1 : (UInt8.ofNat f.a.toNat :: (ctlL m' k' ns' nr' f.p ++ f.info)).length = 1 + cbN m' k' + f.info.length := by
          have : (ctlL m' k' ns' nr' f.p).length = cbN m' k' := by unfold ctlL cbN; split <;> rfl
          simp [this]; omega
        rw [e1]
        exact hown
end Go.Proofs.YtkalonhalhdlaaaGreatDoor
