import Derived.Test.YtkalonhalhdlaaaGreatDoorG24
set_option maxHeartbeats 4000000
set_option maxRecDepth 100000
namespace Go.Proofs.YtkalonhalhdlaaaGreatDoor
open Go.RowKit
section
variable {w W:World}{own:Nat→Nat}{i b:Nat}{c:Cfg}{s:St}{cl:Bool}{ch:Nat}{q cm o ev:Value}{qe ce oe:List Value}
def Xef (s:St):Value:=.agg #[.int .i64 s.state,.int .i64 s.vs,.int .i64 s.va,.int .i64 s.vr,.int .i64 s.timer,.int .i64 s.tries,.bool s.Xh,.bool s.peer,.bool s.busy,.int .i64 s.queue.length,.int .i64 s.came.length]
def Xeg:Value:=.agg #[.int .i64 0,.int .i64 0,.int .i64 0,.int .i64 0,.int .i64 0,.int .i64 0,.bool false,.bool false,.bool false,.int .i64 0,.int .i64 0]
theorem Xmh (h:SAt w own i b c s true ch q cm o ev qe ce oe):
  Calls Tryz.prog 46 #[.pointer (some ⟨b,0,none⟩)] w fun e w'=>e=.returned (.tuple #[Xeg,.int .i64 (8:Nat)])∧Below w.heap.size w w':=by
 have hlt:=h.lt;have K1:=hide (fun V (hV:Below w.heap.size w V)=>YE (h.later hV));clear h;unfold Xeg;go_enter Tryz.func46,Tryz.ntmps46
 go_wp2_with fail
 refine(Xa K1 _ ?_).mono ?_
 ·first|exact Below.refl _ _|exact(Below.refl _ w).alloc (Nat.le_refl _) _
 rintro e w1 ⟨rfl,hw1⟩;subst hw1;clear K1;go_wp2
 exact bodyPost_ret (v:=.tuple #[.agg #[.int .i64 0,.int .i64 0,.int .i64 0,.int .i64 0,.int .i64 0,.int .i64 0,.bool false,.bool false,.bool false,.int .i64 0,.int .i64 0],.int .i64 8]) (by simp[results,Tryz.results46,go_sem]) rfl ⟨rfl,(Below.refl _ w).alloc (Nat.le_refl _) _⟩
theorem Xmg (h:SAt w own i b c s false ch q cm o ev qe ce oe):
  Calls Tryz.prog 46 #[.pointer (some ⟨b,0,none⟩)] w fun e w'=>e=.returned (.tuple #[Xef s,.int .i64 (0:Nat)])∧Below w.heap.size w w':=by
 have hlt:=h.lt;have K1:=hide (fun V (hV:Below w.heap.size w V)=>YE (h.later hV));have c7:=h.Qp;have c8:=h.Xas;have c9:=h.Xi4;have c10:=h.Xce;have c12:=h.c_q;have c13:=h.J7;have c14:=h.Xbp;have c15:=h.Zz;have c16:=h.XaS;have c18:=h.Xf3;have c19:=h.Xi2;obtain⟨qp,qcap,rfl,_,_⟩:=h.lq.slice;obtain⟨mp,mcap,rfl,_,_⟩:=h.lcm.slice;clear h;unfold Xef;generalize s.queue.length=nq at*;generalize s.came.length=nc at*;go_enter Tryz.func46,Tryz.ntmps46
 go_wp2_with fail
 refine(Xa K1 _ ?_).mono ?_
 ·first|exact Below.refl _ _|exact(Below.refl _ w).alloc (Nat.le_refl _) _
 rintro e w1 ⟨rfl,hw1⟩;subst hw1;clear K1;go_wp2_with fail
 have hne:¬b=w.heap.size:=by omega
 have hne2:¬w.heap.size=b:=by omega
 go_region_held3 (fun w'=>w'.cell? ⟨b,7,none⟩=some (.int .i64 s.state)∧w'.cell? ⟨b,8,none⟩=some (.int .i64 s.vs)∧w'.cell? ⟨b,9,none⟩=some (.int .i64 s.va)∧w'.cell? ⟨b,10,none⟩=some (.int .i64 s.vr)∧w'.cell? ⟨b,12,none⟩=some (.slice qp nq qcap)∧w'.cell? ⟨b,13,none⟩=some (.int .i64 s.timer)∧w'.cell? ⟨b,14,none⟩=some (.int .i64 s.tries)∧w'.cell? ⟨b,15,none⟩=some (.bool s.Xh)∧w'.cell? ⟨b,16,none⟩=some (.bool s.peer)∧w'.cell? ⟨b,18,none⟩=some (.bool s.busy)∧w'.cell? ⟨b,19,none⟩=some (.slice mp nc mcap)) (go_keep) (fail)
 go_wp2
 all_goals
  refine bodyPost_ret (v:=.tuple #[.agg #[.int .i64 s.state,.int .i64 s.vs,.int .i64 s.va,.int .i64 s.vr,.int .i64 s.timer,.int .i64 s.tries,.bool s.Xh,.bool s.peer,.bool s.busy,.int .i64 nq,.int .i64 nc],.int .i64 0]) (by simp[results,Tryz.results46,go_sem]) rfl ⟨rfl,?_⟩
  first|exact((Below.refl _ w).alloc (Nat.le_refl _) _).drew|exact(Below.refl _ w).alloc (Nat.le_refl _) _
end
end Go.Proofs.YtkalonhalhdlaaaGreatDoor
