/-
  Read of Write is the frame: in plain words.
-/
import Derived.Test.YtkalonhalhdlaaaGreatDoorVFrs
namespace Go.Proofs.YtkalonhalhdlaaaGreatDoor
open Go.RowKit

theorem u8n {n : Nat} (h : n < 256) : (UInt8.ofNat n).toNat = n := by
  have : (UInt8.ofNat n).toNat = n % 256 := by simp
  rw [this, Nat.mod_eq_of_lt h]

theorem kf_even (m c : Nat) (h : c % 2 = 0) : kindFrom m c 1 9 = some 1 := by
  have e : c &&& maskN m 1 = baseN m 1 := by
    simp [maskN, baseN, tabN, h]
  unfold kindFrom
  rw [if_pos e]

theorem i8_poll : ∀ (ns nr : Fin 8) (p : Bool), decide ((2 * ns.val + bitN p 16 + 32 * nr.val) &&& 16 ≠ 0) = p := by decide +kernel
theorem s8_all : ∀ (k : Fin 10) (nr : Fin 8) (p : Bool), 2 ≤ k.val → k.val ≤ 4 → kindFrom 8 (baseN 8 k.val + bitN p 16 + 32 * nr.val) 1 9 = some k.val ∧ decide ((baseN 8 k.val + bitN p 16 + 32 * nr.val) &&& 16 ≠ 0) = p ∧ (baseN 8 k.val + bitN p 16 + 32 * nr.val) / 32 = nr.val := by decide +kernel
theorem u_all : ∀ (k : Fin 10) (p : Bool), 5 ≤ k.val → kindFrom 8 (baseN 8 k.val + bitN p 16) 1 9 = some k.val ∧ decide ((baseN 8 k.val + bitN p 16) &&& 16 ≠ 0) = p ∧ kindFrom 128 (baseN 128 k.val + bitN p 16) 1 9 = some k.val ∧ decide ((baseN 128 k.val + bitN p 16) &&& 16 ≠ 0) = p := by decide +kernel
theorem s128_all : ∀ (k : Fin 10), 2 ≤ k.val → k.val ≤ 4 → kindFrom 128 (baseN 128 k.val) 1 9 = some k.val := by decide +kernel

/-- The control's first byte, and what it tells. -/
theorem ctl_back {m k ns nr : Nat} (p : Bool) (ok : NumOk m k ns nr) (rest : List UInt8) :
    ∃ c t, ctlL m k ns nr p = c :: t ∧ t.length + 1 = cbN m k ∧ kindFrom m c.toNat 1 9 = some k ∧ (ctlF m k (ctlL m k ns nr p ++ rest)).p = p ∧ (ctlF m k (ctlL m k ns nr p ++ rest)).ns = ns ∧ (ctlF m k (ctlL m k ns nr p ++ rest)).nr = nr := by
  have h1 := first_lt ok
  obtain ⟨hm, k1, k9, a1, a2, b1, b2⟩ := ok
  by_cases h4 : 4 < k
  · have hns := a2 (by omega)
    have hnr := b2 h4
    subst hns
    subst hnr
    have hw : wide m k = false := by simp [wide]; omega
    have hu := u_all ⟨k, by omega⟩ p (by show 5 ≤ k; omega)
    simp only at hu
    have hlt := one_lt (m := m) (k := k) (ns := 0) (nr := 0) ⟨hm, k1, k9, a1, a2, b1, b2⟩ p (by simp [hw])
    have e : ctlL m k 0 0 p = [UInt8.ofNat (baseN m k + bitN p 16)] := by simp [ctlL, hw]
    have e2 : (UInt8.ofNat (baseN m k + bitN p 16)).toNat = baseN m k + bitN p 16 := u8n (by omega)
    refine ⟨_, _, e, by simp [cbN, hw], ?_, ?_, ?_, ?_⟩
    · rw [e2]; rcases hm with rfl | rfl
      · exact hu.1
      · exact hu.2.2.1
    · rw [e]
      simp only [ctlF, if_pos h4, List.cons_append, List.getD_cons_zero, e2]
      rcases hm with rfl | rfl
      · exact hu.2.1
      · exact hu.2.2.2
    · simp only [ctlF, if_pos h4]; rfl
    · simp only [ctlF, if_pos h4]; rfl
  · rcases hm with rfl | rfl
    · have hw : wide 8 k = false := by simp [wide]
      have hnr := b1 (by omega)
      have hlt := one_lt (m := 8) (k := k) (ns := ns) (nr := nr) ⟨.inl rfl, k1, k9, a1, a2, b1, b2⟩ p (by simp [hw])
      have e : ctlL 8 k ns nr p = [UInt8.ofNat (baseN 8 k + 2 * ns + bitN p 16 + 32 * nr)] := by simp [ctlL, hw]
      have e2 := u8n hlt
      by_cases hk1 : k = 1
      · subst hk1
        have hns := a1 rfl
        have eb : baseN 8 1 = 0 := rfl
        rw [eb, Nat.zero_add] at e e2
        have hp := i8_poll ⟨ns, hns⟩ ⟨nr, hnr⟩ p
        simp only at hp
        have hbit : bitN p 16 = 0 ∨ bitN p 16 = 16 := by cases p <;> simp [bitN]
        refine ⟨_, _, e, by simp [cbN, hw], ?_, ?_, ?_, ?_⟩
        · rw [e2]; exact kf_even _ _ (by omega)
        · rw [e]; simp only [ctlF, List.cons_append, List.getD_cons_zero, e2]; exact hp
        · rw [e]
          simp only [ctlF, List.cons_append, List.getD_cons_zero, e2]
          show (((2 * ns + bitN p 16 + 32 * nr) / 2 % 8 : Nat) : Int) = ns
          omega
        · rw [e]
          simp only [ctlF, List.cons_append, List.getD_cons_zero, e2]
          show (((2 * ns + bitN p 16 + 32 * nr) / 32 : Nat) : Int) = nr
          omega
      · have hns := a2 hk1
        subst hns
        have hs := s8_all ⟨k, by omega⟩ ⟨nr, hnr⟩ p (by simp; omega) (by simp; omega)
        simp only at hs
        rw [Nat.mul_zero, Nat.add_zero] at e e2
        refine ⟨_, _, e, by simp [cbN, hw], ?_, ?_, ?_, ?_⟩
        · rw [e2]; exact hs.1
        · rw [e]; simp only [ctlF, if_neg h4, List.cons_append, List.getD_cons_zero, e2]; exact hs.2.1
        · rw [e]; simp only [ctlF, if_neg h4, if_neg hk1]; rfl
        · rw [e]; simp only [ctlF, if_neg h4, List.cons_append, List.getD_cons_zero, e2]
          show (((baseN 8 k + bitN p 16 + 32 * nr) / 32 : Nat) : Int) = nr
          rw [hs.2.2]
    · have hw : wide 128 k = true := by simp [wide]; omega
      have hnr := b1 (by omega)
      have e : ctlL 128 k ns nr p = [UInt8.ofNat (baseN 128 k + 2 * ns), UInt8.ofNat (bitN p 1 + 2 * nr)] := by simp [ctlL, hw]
      have e2 := u8n h1
      have hbit : bitN p 1 = 0 ∧ p = false ∨ bitN p 1 = 1 ∧ p = true := by cases p <;> simp [bitN]
      have e3 : (UInt8.ofNat (bitN p 1 + 2 * nr)).toNat = bitN p 1 + 2 * nr := u8n (by omega)
      have q1 : ¬ (128 = 8) := by omega
      by_cases hk1 : k = 1
      · subst hk1
        have hns := a1 rfl
        have eb : baseN 128 1 = 0 := rfl
        rw [eb, Nat.zero_add] at e e2
        refine ⟨_, _, e, by simp [cbN, hw], ?_, ?_, ?_, ?_⟩
        · rw [e2]; exact kf_even _ _ (by omega)
        · rw [e]
          simp only [ctlF, if_neg h4, if_neg q1, List.cons_append, List.getD_cons_succ, List.getD_cons_zero, e3]
          rcases hbit with ⟨h, rfl⟩ | ⟨h, rfl⟩ <;> rw [h] <;> simp <;> omega
        · rw [e]
          simp only [ctlF, if_neg h4, if_neg q1, List.cons_append, List.getD_cons_zero, e2]
          show (((2 * ns) / 2 % 128 : Nat) : Int) = ns
          omega
        · rw [e]
          simp only [ctlF, if_neg h4, if_neg q1, List.cons_append, List.getD_cons_succ, List.getD_cons_zero, e3]
          omega
      · have hns := a2 hk1
        subst hns
        rw [Nat.mul_zero, Nat.add_zero] at e e2
        refine ⟨_, _, e, by simp [cbN, hw], ?_, ?_, ?_, ?_⟩
        · rw [e2]; exact s128_all ⟨k, by omega⟩ (by simp; omega) (by simp; omega)
        · rw [e]
          simp only [ctlF, if_neg h4, if_neg q1, List.cons_append, List.getD_cons_succ, List.getD_cons_zero, e3]
          rcases hbit with ⟨h, rfl⟩ | ⟨h, rfl⟩ <;> rw [h] <;> simp <;> omega
        · rw [e]
          simp only [ctlF, if_neg h4, if_neg q1, if_neg hk1]; rfl
        · rw [e]
          simp only [ctlF, if_neg h4, if_neg q1, List.cons_append, List.getD_cons_succ, List.getD_cons_zero, e3]
          omega

theorem addr_back {a : Int} (ha : isAddr a = true) : isAddr ((UInt8.ofNat a.toNat).toNat : Int) = true ∧ ((UInt8.ofNat a.toNat).toNat : Int) = a := by
  simp [isAddr] at ha
  rcases ha with rfl | rfl <;> decide

theorem ctlL_length (m k ns nr : Nat) (p : Bool) : (ctlL m k ns nr p).length = cbN m k := by unfold ctlL cbN; split <;> rfl

/-- What is read of a frame that was written, with whatever behind it. -/
theorem read_of {m k ns nr : Nat} {a : Int} (p : Bool) (rest : List UInt8) (ok : NumOk m k ns nr) (ha : isAddr a = true) :
    readL m (UInt8.ofNat a.toNat :: (ctlL m k ns nr p ++ rest)) = if infoF m k rest.length = false then (5, frNone) else (0, ⟨a, k, p, ns, nr, rest⟩) := by
  obtain ⟨c, t, hc, ht, hk, hp, hns, hnr⟩ := ctl_back p ok rest
  have hm : isMod m = true := by rcases ok.1 with rfl | rfl <;> rfl
  obtain ⟨ha1, ha2⟩ := addr_back ha
  have hkl : kindL m (UInt8.ofNat a.toNat :: (ctlL m k ns nr p ++ rest)) = (k, 0) := by
    rw [hc]
    simp only [kindL, hm, ha1, List.cons_append, Int.toNat_natCast, hk]
    rfl
  have hlen : (UInt8.ofNat a.toNat :: (ctlL m k ns nr p ++ rest)).length = 1 + cbN m k + rest.length := by
    simp [ctlL_length]; omega
  unfold readL
  simp only [hkl, Int.toNat_natCast]
  rw [if_neg (by simp), if_neg (by rw [hlen]; omega), hlen]
  have e1 : 1 + cbN m k + rest.length - (1 + cbN m k) = rest.length := by omega
  have e2 : (UInt8.ofNat a.toNat :: (ctlL m k ns nr p ++ rest)).drop (1 + cbN m k) = rest := by
    rw [Nat.add_comm, List.drop_succ_cons, ← ctlL_length m k ns nr p, List.drop_left]
  rw [e1, e2]
  have e3 : (UInt8.ofNat a.toNat :: (ctlL m k ns nr p ++ rest)).drop 1 = ctlL m k ns nr p ++ rest := rfl
  rw [e3, hp, hns, hnr]
  have e4 : (ctlF m k (ctlL m k ns nr p ++ rest)).k = k := by
    unfold ctlF
    by_cases h : 4 < k
    · simp [h]
    · by_cases h2 : m = 8
      · simp [h, h2]
      · simp [h, h2]
  rw [e4]
  have e5 : (((UInt8.ofNat a.toNat :: (ctlL m k ns nr p ++ rest)).getD 0 0).toNat : Int) = a := ha2
  rw [e5]

/-- One byte more: is it too much? -/
theorem more_info {m k : Nat} {n : Nat} (h : infoF m k n = true) : infoF m k (n + 1 : Nat) = (decide (k = 1) && decide (n < 32)) := by
  unfold infoF at h ⊢
  by_cases h1 : k = 1
  · subst h1
    have := of_decide_eq_true h
    simp
    omega
  · have h1' : ¬ ((k : Int) = 1) := by omega
    rw [if_neg h1'] at h ⊢
    by_cases h9 : k = 9
    · subst h9
      rw [if_pos (by rfl)] at h ⊢
      have := eq_of_beq h
      simp [← this, h1]
      omega
    · have h9' : ¬ ((k : Int) = 9) := by omega
      rw [if_neg h9'] at h ⊢
      have := eq_of_beq h
      simp [h1]
      omega
end Go.Proofs.YtkalonhalhdlaaaGreatDoor
