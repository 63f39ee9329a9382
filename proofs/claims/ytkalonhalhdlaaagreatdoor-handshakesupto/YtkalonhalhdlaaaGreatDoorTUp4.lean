/-
  What up of the document's station does.
-/
import Derived.Test.YtkalonhalhdlaaaGreatDoorTUp3
namespace Go.Proofs.YtkalonhalhdlaaaGreatDoor
open Go.RowKit
section
variable {w : World} {own : Nat → Nat} {i b : Nat} {c : Cfg} {s : St} {cl : Bool} {q cm o ev : Value} {ce oe : List Value}
theorem up_num (h : TAt w own i b c s cl q cm o ev ce oe) (hok : s.ok c) (h2 : s.state = 2) (fa fk : Int) (fp cmd : Bool) (fns : Int) (n : Nat) (hn : n < c.m) (info : Msg) (hcmd : isCmd c (⟨fa, fk, fp, fns, (n : Nat), info⟩ : Fr) = cmd) (hk : fk = 1 ∨ fk = 2 ∨ fk = 3 ∨ fk = 4) (fq : Option Addr) (fc : Nat) (hv : w.ownsRow 0 5 1 (.slice fq info.length fc) info.length (Lib.byteCells info)) (hfree : ∀ k, (Value.slice fq info.length fc).ownBlock = some k → own k = 0 ∧ k ≠ 0) (hl : s.out.length + 32 ≤ 2199023255552) (hl2 : s.events.length ≤ 2199023255552) :
    Calls Tryz.prog 126 #[.pointer (some ⟨b, 0, none⟩), .agg #[.int .i64 fa, .int .i64 fk, .bool fp, .int .i64 fns, .int .i64 (n : Nat), .slice fq info.length fc], .bool cmd] w fun e w' => TDidT (Value.slice fq info.length fc).ownBlock i b c (hearNum c (⟨fa, fk, fp, fns, (n : Nat), info⟩ : Fr) s) cl own w e w' := by
  have n5 : (fk == 5) = false := by rcases hk with rfl | rfl | rfl | rfl <;> rfl
  have n6 : (fk == 6) = false := by rcases hk with rfl | rfl | rfl | rfl <;> rfl
  have n7 : (fk == 7) = false := by rcases hk with rfl | rfl | rfl | rfl <;> rfl
  have n8 : (fk == 8) = false := by rcases hk with rfl | rfl | rfl | rfl <;> rfl
  have n9 : (fk == 9) = false := by rcases hk with rfl | rfl | rfl | rfl <;> rfl
  have hdef : hearNum c (⟨fa, fk, fp, fns, (n : Nat), info⟩ : Fr) s = if isGood c s n = false then tell 2 (report c (isCmd c (⟨fa, fk, fp, fns, (n : Nat), info⟩ : Fr) && fp) { over s with state := 4 }) else pump c (if fk = 1 then hearMsg c (⟨fa, fk, fp, fns, (n : Nat), info⟩ : Fr) (acknowledge c n s) else hearReady c (⟨fa, fk, fp, fns, (n : Nat), info⟩ : Fr) (acknowledge c n s)) := rfl
  rw [hdef]
  by_cases hg : isGood c s n = false
  · have hbad : ahead c s s.vm < ahead c s n := by
      unfold isGood at hg
      have := of_decide_eq_false hg
      omega
    rw [if_pos hg, hcmd]
    cases cmd
    · exact (up_bad_r h fa fk fp fns n hn fq info.length fc n5 n6 n7 n8 n9 hbad (by omega) hl2).mono (fun e w' hq => hq.t)
    · exact (up_bad_c h fa fk fp fns n hn fq info.length fc n5 n6 n7 n8 n9 hbad (by omega) hl2).mono (fun e w' hq => hq.t)
  · have hgood : ahead c s n ≤ ahead c s s.vm := by
      have h1 := eq_true_of_ne_false hg
      unfold isGood at h1
      exact of_decide_eq_true h1
    rw [if_neg hg]
    by_cases h1 : fk = 1
    · subst h1
      rw [if_pos rfl]
      by_cases hz : ahead c s n = 0
      · exact upg_m_nz h hok h2 fa fp cmd fns n hn info fq fc hgood (by omega) hz hv hfree hl
      · by_cases hA : ahead c s s.vs < ahead c s n
        · cases hp : s.polling
          · exact upg_m_at h hok h2 fa fp cmd fns n hn info fq fc hgood hA (by omega) hp hv hfree hl
          · exact upg_m_ap h hok h2 fa fp cmd fns n hn info fq fc hgood hA (by omega) hp hv hfree hl
        · cases hp : s.polling
          · exact upg_m_nt h hok h2 fa fp cmd fns n hn info fq fc hgood hA (by omega) hp hv hfree hl
          · exact upg_m_np h hok h2 fa fp cmd fns n hn info fq fc hgood hA (by omega) hp hv hfree hl
    · rw [if_neg h1]
      have n1 : (fk == 1) = false := by simp [h1]
      have hk3 : fk = 2 ∨ fk = 3 ∨ fk = 4 := by omega
      by_cases hz : ahead c s n = 0
      · exact (upg_s_nz h hok h2 fa fk fp cmd fns n hn info fq fc n1 n5 n6 n7 n8 n9 hk3 hcmd hgood (by omega) hz hl).mono (fun e w' hq => hq.t)
      · by_cases hA : ahead c s s.vs < ahead c s n
        · cases hp : s.polling
          · exact (upg_s_at h hok h2 fa fk fp cmd fns n hn info fq fc n1 n5 n6 n7 n8 n9 hk3 hcmd hgood hA (by omega) hp hl).mono (fun e w' hq => hq.t)
          · exact (upg_s_ap h hok h2 fa fk fp cmd fns n hn info fq fc n1 n5 n6 n7 n8 n9 hk3 hcmd hgood hA (by omega) hp hl).mono (fun e w' hq => hq.t)
        · cases hp : s.polling
          · exact (upg_s_nt h hok h2 fa fk fp cmd fns n hn info fq fc n1 n5 n6 n7 n8 n9 hk3 hcmd hgood hA (by omega) hp hl).mono (fun e w' hq => hq.t)
          · exact (upg_s_np h hok h2 fa fk fp cmd fns n hn info fq fc n1 n5 n6 n7 n8 n9 hk3 hcmd hgood hA (by omega) hp hl).mono (fun e w' hq => hq.t)
theorem up_ref (h : TAt w own i b c s cl q cm o ev ce oe) (hok : s.ok c) (h2 : s.state = 2) (fa fk : Int) (fp cmd : Bool) (fns : Int) (n : Nat) (hn : n < c.m) (info : Msg) (hcmd : isCmd c (⟨fa, fk, fp, fns, (n : Nat), info⟩ : Fr) = cmd) (hk : 1 ≤ fk ∧ fk ≤ 9) (fq : Option Addr) (fc : Nat) (hv : w.ownsRow 0 5 1 (.slice fq info.length fc) info.length (Lib.byteCells info)) (hfree : ∀ k, (Value.slice fq info.length fc).ownBlock = some k → own k = 0 ∧ k ≠ 0) (hl : s.out.length + 32 ≤ 2199023255552) (hl2 : s.events.length ≤ 2199023255552) :
    Calls Tryz.prog 126 #[.pointer (some ⟨b, 0, none⟩), .agg #[.int .i64 fa, .int .i64 fk, .bool fp, .int .i64 fns, .int .i64 (n : Nat), .slice fq info.length fc], .bool cmd] w fun e w' => TDidT (Value.slice fq info.length fc).ownBlock i b c (hearUp c (⟨fa, fk, fp, fns, (n : Nat), info⟩ : Fr) s) cl own w e w' := by
  have hkc : (fk = 1 ∨ fk = 2 ∨ fk = 3 ∨ fk = 4) ∨ fk = 5 ∨ fk = 6 ∨ fk = 7 ∨ fk = 8 ∨ fk = 9 := by omega
  rcases hkc with hk4 | rfl | rfl | rfl | rfl | rfl
  · have e : hearUp c (⟨fa, fk, fp, fns, (n : Nat), info⟩ : Fr) s = hearNum c (⟨fa, fk, fp, fns, (n : Nat), info⟩ : Fr) s := by
      rcases hk4 with rfl | rfl | rfl | rfl <;> rfl
    rw [e]
    exact up_num h hok h2 fa fk fp cmd fns n hn info hcmd hk4 fq fc hv hfree hl hl2
  · exact (up_5 h fa fp cmd fns (n : Nat) fq info.length fc (by omega) hl2).mono (fun e w' hq => hq.t)
  · exact (up_6 h fa fp cmd fns (n : Nat) fq info.length fc (by omega) hl2).mono (fun e w' hq => hq.t)
  · exact (up_7 h fa fp cmd fns (n : Nat) fq info.length fc (by omega) hl2).mono (fun e w' hq => hq.t)
  · exact (up_8 h fa fp cmd fns (n : Nat) fq info.length fc hl2).mono (fun e w' hq => hq.t)
  · exact (up_9 h fa fp cmd fns (n : Nat) fq info.length fc (by omega) hl2).mono (fun e w' hq => hq.t)
theorem down_ref (h : TAt w own i b c s cl q cm o ev ce oe) (fa fk : Int) (fp cmd : Bool) (fns fnr : Int) (info : Msg) (hcmd : isCmd c (⟨fa, fk, fp, fns, fnr, info⟩ : Fr) = cmd) (hh : heeds c (⟨fa, fk, fp, fns, fnr, info⟩ : Fr) = true) (hk : 1 ≤ fk ∧ fk ≤ 9) (fq : Option Addr) (fc : Nat) (hl : s.out.length ≤ 2199023255552) (hl2 : s.events.length ≤ 2199023255552) :
    Calls Tryz.prog 122 #[.pointer (some ⟨b, 0, none⟩), .agg #[.int .i64 fa, .int .i64 fk, .bool fp, .int .i64 fns, .int .i64 fnr, .slice fq info.length fc], .bool cmd] w fun e w' => TDid i b c (hearDown c (⟨fa, fk, fp, fns, fnr, info⟩ : Fr) s) cl own w e w' := by
  have hkc : fk = 5 ∨ fk = 6 ∨ (fk = 1 ∨ fk = 2 ∨ fk = 3 ∨ fk = 4) ∨ fk = 7 ∨ fk = 8 ∨ fk = 9 := by omega
  rcases hkc with rfl | rfl | hk4 | hk4
  · exact down_5 h fa fp cmd fns fnr fq info.length fc hl hl2
  · exact down_6 h fa fp cmd fns fnr fq info.length fc hl
  · have n5 : (fk == 5) = false := by rcases hk4 with rfl | rfl | rfl | rfl <;> rfl
    have n6 : (fk == 6) = false := by rcases hk4 with rfl | rfl | rfl | rfl <;> rfl
    have e : hearDown c (⟨fa, fk, fp, fns, fnr, info⟩ : Fr) s = if isCmd c (⟨fa, fk, fp, fns, fnr, info⟩ : Fr) && fp then respond c 8 fp s else s := by
      rcases hk4 with rfl | rfl | rfl | rfl <;> rfl
    rw [e, hcmd]
    cases cmd
    · exact down_no h fa fk fp fns fnr fq info.length fc n5 n6
    · cases fp
      · exact down_np h fa fk fns fnr fq info.length fc n5 n6
      · exact down_dm h fa fk fns fnr fq info.length fc n5 n6 hl
  · have n5 : (fk == 5) = false := by rcases hk4 with rfl | rfl | rfl <;> rfl
    have n6 : (fk == 6) = false := by rcases hk4 with rfl | rfl | rfl <;> rfl
    have e : hearDown c (⟨fa, fk, fp, fns, fnr, info⟩ : Fr) s = s := by rcases hk4 with rfl | rfl | rfl <;> rfl
    have e2 : heeds c (⟨fa, fk, fp, fns, fnr, info⟩ : Fr) = !isCmd c (⟨fa, fk, fp, fns, fnr, info⟩ : Fr) := by rcases hk4 with rfl | rfl | rfl <;> rfl
    rw [e2, hcmd] at hh
    have hc0 : cmd = false := by simpa using hh
    subst hc0
    rw [e]
    exact down_no h fa fk fp fns fnr fq info.length fc n5 n6
theorem calling_ref (h : TAt w own i b c s cl q cm o ev ce oe) (fa fk : Int) (fp : Bool) (fns fnr : Int) (info : Msg) (hk : 1 ≤ fk ∧ fk ≤ 9) (fq : Option Addr) (fc : Nat) (hl : s.out.length ≤ 2199023255552) (hl2 : s.events.length ≤ 2199023255552) :
    Calls Tryz.prog 123 #[.pointer (some ⟨b, 0, none⟩), .agg #[.int .i64 fa, .int .i64 fk, .bool fp, .int .i64 fns, .int .i64 fnr, .slice fq info.length fc]] w fun e w' => TDid i b c (hearCalling c (⟨fa, fk, fp, fns, fnr, info⟩ : Fr) s) cl own w e w' := by
  have hkc : fk = 5 ∨ fk = 6 ∨ fk = 7 ∨ fk = 8 ∨ (fk = 1 ∨ fk = 2 ∨ fk = 3 ∨ fk = 4 ∨ fk = 9) := by omega
  rcases hkc with rfl | rfl | rfl | rfl | hk4
  · exact calling_5 h fa fp fns fnr fq info.length fc hl
  · exact calling_6 h fa fp fns fnr fq info.length fc hl
  · cases fp
    · exact calling_7n h fa fns fnr fq info.length fc
    · exact calling_7 h fa fns fnr fq info.length fc hl2
  · cases fp
    · exact calling_8n h fa fns fnr fq info.length fc
    · exact calling_8 h fa fns fnr fq info.length fc hl2
  · have n5 : (fk == 5) = false := by rcases hk4 with rfl | rfl | rfl | rfl | rfl <;> rfl
    have n6 : (fk == 6) = false := by rcases hk4 with rfl | rfl | rfl | rfl | rfl <;> rfl
    have n7 : (fk == 7) = false := by rcases hk4 with rfl | rfl | rfl | rfl | rfl <;> rfl
    have n8 : (fk == 8) = false := by rcases hk4 with rfl | rfl | rfl | rfl | rfl <;> rfl
    have e : hearCalling c (⟨fa, fk, fp, fns, fnr, info⟩ : Fr) s = s := by
      unfold hearCalling
      rcases hk4 with rfl | rfl | rfl | rfl | rfl <;> simp
    rw [e]
    exact calling_no h fa fk fp fns fnr fq info.length fc n5 n6 n7 n8
theorem leaving_ref (h : TAt w own i b c s cl q cm o ev ce oe) (fa fk : Int) (fp : Bool) (fns fnr : Int) (info : Msg) (hk : 1 ≤ fk ∧ fk ≤ 9) (fq : Option Addr) (fc : Nat) (hl : s.out.length ≤ 2199023255552) (hl2 : s.events.length ≤ 2199023255552) :
    Calls Tryz.prog 124 #[.pointer (some ⟨b, 0, none⟩), .agg #[.int .i64 fa, .int .i64 fk, .bool fp, .int .i64 fns, .int .i64 fnr, .slice fq info.length fc]] w fun e w' => TDid i b c (hearLeaving c (⟨fa, fk, fp, fns, fnr, info⟩ : Fr) s) cl own w e w' := by
  have hkc : fk = 5 ∨ fk = 6 ∨ fk = 7 ∨ fk = 8 ∨ (fk = 1 ∨ fk = 2 ∨ fk = 3 ∨ fk = 4 ∨ fk = 9) := by omega
  rcases hkc with rfl | rfl | rfl | rfl | hk4
  · exact leaving_5 h fa fp fns fnr fq info.length fc hl
  · exact leaving_6 h fa fp fns fnr fq info.length fc hl
  · cases fp
    · exact leaving_7n h fa fns fnr fq info.length fc
    · exact leaving_7 h fa fns fnr fq info.length fc hl2
  · cases fp
    · exact leaving_8n h fa fns fnr fq info.length fc
    · exact leaving_8 h fa fns fnr fq info.length fc hl2
  · have n5 : (fk == 5) = false := by rcases hk4 with rfl | rfl | rfl | rfl | rfl <;> rfl
    have n6 : (fk == 6) = false := by rcases hk4 with rfl | rfl | rfl | rfl | rfl <;> rfl
    have n7 : (fk == 7) = false := by rcases hk4 with rfl | rfl | rfl | rfl | rfl <;> rfl
    have n8 : (fk == 8) = false := by rcases hk4 with rfl | rfl | rfl | rfl | rfl <;> rfl
    have e : hearLeaving c (⟨fa, fk, fp, fns, fnr, info⟩ : Fr) s = s := by
      unfold hearLeaving
      rcases hk4 with rfl | rfl | rfl | rfl | rfl <;> simp
    rw [e]
    exact leaving_no h fa fk fp fns fnr fq info.length fc n5 n6 n7 n8
theorem broken_ref (h : TAt w own i b c s cl q cm o ev ce oe) (fa fk : Int) (fp cmd : Bool) (fns fnr : Int) (info : Msg) (hcmd : isCmd c (⟨fa, fk, fp, fns, fnr, info⟩ : Fr) = cmd) (hh : heeds c (⟨fa, fk, fp, fns, fnr, info⟩ : Fr) = true) (hk : 1 ≤ fk ∧ fk ≤ 9) (fq : Option Addr) (fc : Nat) (hl : s.out.length ≤ 2199023255552) (hl2 : s.events.length ≤ 2199023255552) :
    Calls Tryz.prog 125 #[.pointer (some ⟨b, 0, none⟩), .agg #[.int .i64 fa, .int .i64 fk, .bool fp, .int .i64 fns, .int .i64 fnr, .slice fq info.length fc], .bool cmd] w fun e w' => TDid i b c (hearBroken c (⟨fa, fk, fp, fns, fnr, info⟩ : Fr) s) cl own w e w' := by
  have hkc : fk = 5 ∨ fk = 6 ∨ fk = 8 ∨ (fk = 1 ∨ fk = 2 ∨ fk = 3 ∨ fk = 4) ∨ fk = 7 ∨ fk = 9 := by omega
  rcases hkc with rfl | rfl | rfl | hk4 | hk4
  · exact broken_5 h fa fp cmd fns fnr fq info.length fc hl hl2
  · exact broken_6 h fa fp cmd fns fnr fq info.length fc hl hl2
  · exact broken_8 h fa fp cmd fns fnr fq info.length fc hl2
  · have n5 : (fk == 5) = false := by rcases hk4 with rfl | rfl | rfl | rfl <;> rfl
    have n6 : (fk == 6) = false := by rcases hk4 with rfl | rfl | rfl | rfl <;> rfl
    have n8 : (fk == 8) = false := by rcases hk4 with rfl | rfl | rfl | rfl <;> rfl
    have e : hearBroken c (⟨fa, fk, fp, fns, fnr, info⟩ : Fr) s = if isCmd c (⟨fa, fk, fp, fns, fnr, info⟩ : Fr) then report c fp s else s := by
      rcases hk4 with rfl | rfl | rfl | rfl <;> rfl
    rw [e, hcmd]
    cases cmd
    · exact broken_no h fa fk fp fns fnr fq info.length fc n5 n6 n8
    · exact broken_cmd h fa fk fp fns fnr fq info.length fc n5 n6 n8 hl
  · have n5 : (fk == 5) = false := by rcases hk4 with rfl | rfl <;> rfl
    have n6 : (fk == 6) = false := by rcases hk4 with rfl | rfl <;> rfl
    have n8 : (fk == 8) = false := by rcases hk4 with rfl | rfl <;> rfl
    have e : hearBroken c (⟨fa, fk, fp, fns, fnr, info⟩ : Fr) s = s := by rcases hk4 with rfl | rfl <;> rfl
    have e2 : heeds c (⟨fa, fk, fp, fns, fnr, info⟩ : Fr) = !isCmd c (⟨fa, fk, fp, fns, fnr, info⟩ : Fr) := by rcases hk4 with rfl | rfl <;> rfl
    rw [e2, hcmd] at hh
    have hc0 : cmd = false := by simpa using hh
    subst hc0
    rw [e]
    exact broken_no h fa fk fp fns fnr fq info.length fc n5 n6 n8
end
end Go.Proofs.YtkalonhalhdlaaaGreatDoor
