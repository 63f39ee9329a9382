import Derived.Test.YtkalonhalhdlaaaGreatDoorG14
import Derived.Lib.SlBytesConst
import Derived.Great.BuildSlice
import Derived.ShutString
set_option maxHeartbeats 4000000
set_option maxRecDepth 100000
namespace Go.Proofs.YtkalonhalhdlaaaGreatDoor
open Go.RowKit
section
variable {w:World}{own:Nat→Nat}{i b:Nat}{c:Cfg}{s:St}{cl:Bool}{q cm o ev:Value}{ce oe:List Value}
theorem XlL (h:TAt w own i b c s cl q cm o ev ce oe)(fa:Int)(n:Nat)(_hn:n<c.m)(fns:Int)(fq:Option Addr)(fl fc:Nat):
  Calls Tryz.prog 150 #[.pointer (some ⟨b,0,none⟩),.agg #[.int .i64 fa,.int .i64 2,.bool false,.int .i64 fns,.int .i64 (n:Nat),.slice fq fl fc],.bool false] w fun e w'=>XA i b c ({s with peer:=false,vs:=s.vs}) cl own w e w':=by
 have hlt:=h.lt;have hA0:=Xg w (.cells #[.int .i64 fa,.int .i64 2,.bool false,.int .i64 fns,.int .i64 (n:Nat),.slice fq fl fc] 30);have hbA:=(Below.refl w.heap.size w).alloc (Nat.le_refl _) (.cells #[.int .i64 fa,.int .i64 2,.bool false,.int .i64 fns,.int .i64 (n:Nat),.slice fq fl fc] 30);go_enter Tryz.func150,Tryz.ntmps150
 go_upto_region 1 with fail
 generalize w.alloc (.cells #[.int .i64 fa,.int .i64 2,.bool false,.int .i64 fns,.int .i64 (n:Nat),.slice fq fl fc] 30)=W0 at*;generalize hnB:w.heap.size=nB at*;have y1:W0.cell? ⟨nB,1,none⟩=some (.int .i64 2):=by rw[Lib.cell_of_heap hA0];rfl
 have y2:W0.cell? ⟨nB,2,none⟩=some (.bool false):=by rw[Lib.cell_of_heap hA0];rfl
 have y4:W0.cell? ⟨nB,4,none⟩=some (.int .i64 (n:Nat)):=by rw[Lib.cell_of_heap hA0];rfl
 have hbA2:Below w.heap.size w W0:=hnB▸hbA;have h0:=h.later hbA2;have c7:=h0.c7;have c12:=h0.c12;have c14:=h0.c14;have c15:=h0.c15;skip
 have fz:=h0.fz;have n1:¬nB=b:=by omega
 have n2:¬b=nB:=by omega
 have hK:Xb (· =b) W0 (W0.setCell ⟨b,15,none⟩ (.bool false)):=((Xb.refl _ W0).setB 15 _);have h2:=h0.wrote hK ((h0.hd.peer false).as {s with peer:=false,vs:=s.vs} rfl) rfl rfl rfl rfl ⟨h0.sok.state,h0.sok.vs,h0.sok.va,h0.sok.vr,h0.sok.vm,h0.sok.q20,h0.sok.q32,h0.sok.timer,h0.sok.tries,h0.sok.came⟩;have HU:=hide (Upd.of hbA2 (h0.upd hK));have HR:=hide (And.intro h2 (Xa HU));clear h h0 h2 hK hA0 hbA hbA2 HU;go_wp2
 go_end0
 exact⟨rfl,_,⟨_,_,_,_,_,_,(Xa HR).1⟩,(Xa HR).2⟩
theorem XlK (h:TAt w own i b c s cl q cm o ev ce oe)(fa:Int)(n:Nat)(_hn:n<c.m)(fns:Int)(fq:Option Addr)(fl fc:Nat):
  Calls Tryz.prog 150 #[.pointer (some ⟨b,0,none⟩),.agg #[.int .i64 fa,.int .i64 2,.bool false,.int .i64 fns,.int .i64 (n:Nat),.slice fq fl fc],.bool true] w fun e w'=>XA i b c ({s with peer:=false,vs:=s.vs}) cl own w e w':=by
 have hlt:=h.lt;have hA0:=Xg w (.cells #[.int .i64 fa,.int .i64 2,.bool false,.int .i64 fns,.int .i64 (n:Nat),.slice fq fl fc] 30);have hbA:=(Below.refl w.heap.size w).alloc (Nat.le_refl _) (.cells #[.int .i64 fa,.int .i64 2,.bool false,.int .i64 fns,.int .i64 (n:Nat),.slice fq fl fc] 30);go_enter Tryz.func150,Tryz.ntmps150
 go_upto_region 1 with fail
 generalize w.alloc (.cells #[.int .i64 fa,.int .i64 2,.bool false,.int .i64 fns,.int .i64 (n:Nat),.slice fq fl fc] 30)=W0 at*;generalize hnB:w.heap.size=nB at*;have y1:W0.cell? ⟨nB,1,none⟩=some (.int .i64 2):=by rw[Lib.cell_of_heap hA0];rfl
 have y2:W0.cell? ⟨nB,2,none⟩=some (.bool false):=by rw[Lib.cell_of_heap hA0];rfl
 have y4:W0.cell? ⟨nB,4,none⟩=some (.int .i64 (n:Nat)):=by rw[Lib.cell_of_heap hA0];rfl
 have hbA2:Below w.heap.size w W0:=hnB▸hbA;have h0:=h.later hbA2;have c7:=h0.c7;have c12:=h0.c12;have c14:=h0.c14;have c15:=h0.c15;skip
 have fz:=h0.fz;have n1:¬nB=b:=by omega
 have n2:¬b=nB:=by omega
 have hK:Xb (· =b) W0 (W0.setCell ⟨b,15,none⟩ (.bool false)):=((Xb.refl _ W0).setB 15 _);have h2:=h0.wrote hK ((h0.hd.peer false).as {s with peer:=false,vs:=s.vs} rfl) rfl rfl rfl rfl ⟨h0.sok.state,h0.sok.vs,h0.sok.va,h0.sok.vr,h0.sok.vm,h0.sok.q20,h0.sok.q32,h0.sok.timer,h0.sok.tries,h0.sok.came⟩;have HU:=hide (Upd.of hbA2 (h0.upd hK));have HR:=hide (And.intro h2 (Xa HU));clear h h0 h2 hK hA0 hbA hbA2 HU;go_wp2
 go_end0
 exact⟨rfl,_,⟨_,_,_,_,_,_,(Xa HR).1⟩,(Xa HR).2⟩
theorem XlM (h:TAt w own i b c s cl q cm o ev ce oe)(fa:Int)(n:Nat)(_hn:n<c.m)(fns:Int)(fq:Option Addr)(fl fc:Nat)(hl:s.out.length≤2199023255552):
  Calls Tryz.prog 150 #[.pointer (some ⟨b,0,none⟩),.agg #[.int .i64 fa,.int .i64 2,.bool true,.int .i64 fns,.int .i64 (n:Nat),.slice fq fl fc],.bool true] w fun e w'=>XA i b c (answer c true {s with peer:=false,vs:=s.vs}) cl own w e w':=by
 have hlt:=h.lt;have hA0:=Xg w (.cells #[.int .i64 fa,.int .i64 2,.bool true,.int .i64 fns,.int .i64 (n:Nat),.slice fq fl fc] 30);have hbA:=(Below.refl w.heap.size w).alloc (Nat.le_refl _) (.cells #[.int .i64 fa,.int .i64 2,.bool true,.int .i64 fns,.int .i64 (n:Nat),.slice fq fl fc] 30);go_enter Tryz.func150,Tryz.ntmps150
 go_upto_region 1 with fail
 generalize w.alloc (.cells #[.int .i64 fa,.int .i64 2,.bool true,.int .i64 fns,.int .i64 (n:Nat),.slice fq fl fc] 30)=W0 at*;generalize hnB:w.heap.size=nB at*;have y1:W0.cell? ⟨nB,1,none⟩=some (.int .i64 2):=by rw[Lib.cell_of_heap hA0];rfl
 have y2:W0.cell? ⟨nB,2,none⟩=some (.bool true):=by rw[Lib.cell_of_heap hA0];rfl
 have y4:W0.cell? ⟨nB,4,none⟩=some (.int .i64 (n:Nat)):=by rw[Lib.cell_of_heap hA0];rfl
 have hbA2:Below w.heap.size w W0:=hnB▸hbA;have h0:=h.later hbA2;have c7:=h0.c7;have c12:=h0.c12;have c14:=h0.c14;have c15:=h0.c15;skip
 have fz:=h0.fz;have n1:¬nB=b:=by omega
 have n2:¬b=nB:=by omega
 have hK:Xb (· =b) W0 (W0.setCell ⟨b,15,none⟩ (.bool false)):=((Xb.refl _ W0).setB 15 _);have h2:=h0.wrote hK ((h0.hd.peer false).as {s with peer:=false,vs:=s.vs} rfl) rfl rfl rfl rfl ⟨h0.sok.state,h0.sok.vs,h0.sok.va,h0.sok.vr,h0.sok.vm,h0.sok.q20,h0.sok.q32,h0.sok.timer,h0.sok.tries,h0.sok.came⟩;have HU:=hide (Upd.of hbA2 (h0.upd hK));have K2:=hide (ZP h2 false true hl);clear h h0 h2 hK hA0 hbA hbA2;go_wp2_with fail
 refine(Xa K2).mono ?_;rintro e w2 ⟨rfl,own2,o2,oe2,h3,u3⟩;have HR:=hide (And.intro h3 ((Xa HU).trans u3));clear h3 u3 K2 HU c7 c12 c14 c15 fz y1 y2 y4;go_wp2
 go_end0
 exact⟨rfl,_,⟨_,_,_,_,_,_,(Xa HR).1⟩,(Xa HR).2⟩
theorem Xin (h:TAt w own i b c s cl q cm o ev ce oe)(fa:Int)(n:Nat)(hn:n<c.m)(fns:Int)(fq:Option Addr)(fl fc:Nat)(hpol:s.Xh=true):
  Calls Tryz.prog 150 #[.pointer (some ⟨b,0,none⟩),.agg #[.int .i64 fa,.int .i64 2,.bool true,.int .i64 fns,.int .i64 (n:Nat),.slice fq fl fc],.bool false] w fun e w'=>XA i b c ({s with peer:=false,vs:=n,Xh:=false,timer:=0}) cl own w e w':=by
 have hlt:=h.lt;have hA0:=Xg w (.cells #[.int .i64 fa,.int .i64 2,.bool true,.int .i64 fns,.int .i64 (n:Nat),.slice fq fl fc] 30);have hbA:=(Below.refl w.heap.size w).alloc (Nat.le_refl _) (.cells #[.int .i64 fa,.int .i64 2,.bool true,.int .i64 fns,.int .i64 (n:Nat),.slice fq fl fc] 30);go_enter Tryz.func150,Tryz.ntmps150
 go_upto_region 1 with fail
 generalize w.alloc (.cells #[.int .i64 fa,.int .i64 2,.bool true,.int .i64 fns,.int .i64 (n:Nat),.slice fq fl fc] 30)=W0 at*;generalize hnB:w.heap.size=nB at*;have y1:W0.cell? ⟨nB,1,none⟩=some (.int .i64 2):=by rw[Lib.cell_of_heap hA0];rfl
 have y2:W0.cell? ⟨nB,2,none⟩=some (.bool true):=by rw[Lib.cell_of_heap hA0];rfl
 have y4:W0.cell? ⟨nB,4,none⟩=some (.int .i64 (n:Nat)):=by rw[Lib.cell_of_heap hA0];rfl
 have hbA2:Below w.heap.size w W0:=hnB▸hbA;have h0:=h.later hbA2;have c7:=h0.c7;have c12:=h0.c12;have c14:=h0.c14;have c15:=h0.c15;rw[hpol]at c14;have fz:=h0.fz;have n1:¬nB=b:=by omega
 have n2:¬b=nB:=by omega
 have hK:Xb (· =b) W0 ((((W0.setCell ⟨b,15,none⟩ (.bool false)).setCell ⟨b,14,none⟩ (.bool false)).setCell ⟨b,7,none⟩ (.int .i64 (n:Nat))).setCell ⟨b,12,none⟩ (.int .i64 (0:Nat))):=(((((Xb.refl _ W0).setB 15 _).setB 14 _).setB 7 _).setB 12 _);have h2:=h0.wrote hK (((((h0.hd.peer false).Xh false).vs n).timer 0).as {s with peer:=false,vs:=n,Xh:=false,timer:=0} rfl) rfl rfl rfl rfl ⟨h0.sok.state,hn,h0.sok.va,h0.sok.vr,h0.sok.vm,h0.sok.q20,h0.sok.q32,Nat.zero_le _,h0.sok.tries,h0.sok.came⟩;have HU:=hide (Upd.of hbA2 (h0.upd hK));have HR:=hide (And.intro h2 (Xa HU));clear h h0 h2 hK hA0 hbA hbA2 HU;go_wp2
 go_end0
 exact⟨rfl,_,⟨_,_,_,_,_,_,(Xa HR).1⟩,(Xa HR).2⟩
theorem Xim (h:TAt w own i b c s cl q cm o ev ce oe)(fa:Int)(n:Nat)(_hn:n<c.m)(fns:Int)(fq:Option Addr)(fl fc:Nat)(hpol:s.Xh=false):
  Calls Tryz.prog 150 #[.pointer (some ⟨b,0,none⟩),.agg #[.int .i64 fa,.int .i64 2,.bool true,.int .i64 fns,.int .i64 (n:Nat),.slice fq fl fc],.bool false] w fun e w'=>XA i b c ({s with peer:=false,vs:=s.vs}) cl own w e w':=by
 have hlt:=h.lt;have hA0:=Xg w (.cells #[.int .i64 fa,.int .i64 2,.bool true,.int .i64 fns,.int .i64 (n:Nat),.slice fq fl fc] 30);have hbA:=(Below.refl w.heap.size w).alloc (Nat.le_refl _) (.cells #[.int .i64 fa,.int .i64 2,.bool true,.int .i64 fns,.int .i64 (n:Nat),.slice fq fl fc] 30);go_enter Tryz.func150,Tryz.ntmps150
 go_upto_region 1 with fail
 generalize w.alloc (.cells #[.int .i64 fa,.int .i64 2,.bool true,.int .i64 fns,.int .i64 (n:Nat),.slice fq fl fc] 30)=W0 at*;generalize hnB:w.heap.size=nB at*;have y1:W0.cell? ⟨nB,1,none⟩=some (.int .i64 2):=by rw[Lib.cell_of_heap hA0];rfl
 have y2:W0.cell? ⟨nB,2,none⟩=some (.bool true):=by rw[Lib.cell_of_heap hA0];rfl
 have y4:W0.cell? ⟨nB,4,none⟩=some (.int .i64 (n:Nat)):=by rw[Lib.cell_of_heap hA0];rfl
 have hbA2:Below w.heap.size w W0:=hnB▸hbA;have h0:=h.later hbA2;have c7:=h0.c7;have c12:=h0.c12;have c14:=h0.c14;have c15:=h0.c15;rw[hpol]at c14;have fz:=h0.fz;have n1:¬nB=b:=by omega
 have n2:¬b=nB:=by omega
 have hK:Xb (· =b) W0 (W0.setCell ⟨b,15,none⟩ (.bool false)):=((Xb.refl _ W0).setB 15 _);have h2:=h0.wrote hK ((h0.hd.peer false).as {s with peer:=false,vs:=s.vs} rfl) rfl rfl rfl rfl ⟨h0.sok.state,h0.sok.vs,h0.sok.va,h0.sok.vr,h0.sok.vm,h0.sok.q20,h0.sok.q32,h0.sok.timer,h0.sok.tries,h0.sok.came⟩;have HU:=hide (Upd.of hbA2 (h0.upd hK));have HR:=hide (And.intro h2 (Xa HU));clear h h0 h2 hK hA0 hbA hbA2 HU;go_wp2
 go_end0
 exact⟨rfl,_,⟨_,_,_,_,_,_,(Xa HR).1⟩,(Xa HR).2⟩
theorem XlO (h:TAt w own i b c s cl q cm o ev ce oe)(fa:Int)(n:Nat)(_hn:n<c.m)(fns:Int)(fq:Option Addr)(fl fc:Nat):
  Calls Tryz.prog 150 #[.pointer (some ⟨b,0,none⟩),.agg #[.int .i64 fa,.int .i64 3,.bool false,.int .i64 fns,.int .i64 (n:Nat),.slice fq fl fc],.bool false] w fun e w'=>XA i b c ({s with peer:=true,vs:=s.vs}) cl own w e w':=by
 have hlt:=h.lt;have hA0:=Xg w (.cells #[.int .i64 fa,.int .i64 3,.bool false,.int .i64 fns,.int .i64 (n:Nat),.slice fq fl fc] 30);have hbA:=(Below.refl w.heap.size w).alloc (Nat.le_refl _) (.cells #[.int .i64 fa,.int .i64 3,.bool false,.int .i64 fns,.int .i64 (n:Nat),.slice fq fl fc] 30);go_enter Tryz.func150,Tryz.ntmps150
 go_upto_region 1 with fail
 generalize w.alloc (.cells #[.int .i64 fa,.int .i64 3,.bool false,.int .i64 fns,.int .i64 (n:Nat),.slice fq fl fc] 30)=W0 at*;generalize hnB:w.heap.size=nB at*;have y1:W0.cell? ⟨nB,1,none⟩=some (.int .i64 3):=by rw[Lib.cell_of_heap hA0];rfl
 have y2:W0.cell? ⟨nB,2,none⟩=some (.bool false):=by rw[Lib.cell_of_heap hA0];rfl
 have y4:W0.cell? ⟨nB,4,none⟩=some (.int .i64 (n:Nat)):=by rw[Lib.cell_of_heap hA0];rfl
 have hbA2:Below w.heap.size w W0:=hnB▸hbA;have h0:=h.later hbA2;have c7:=h0.c7;have c12:=h0.c12;have c14:=h0.c14;have c15:=h0.c15;skip
 have fz:=h0.fz;have n1:¬nB=b:=by omega
 have n2:¬b=nB:=by omega
 have hK:Xb (· =b) W0 (W0.setCell ⟨b,15,none⟩ (.bool true)):=((Xb.refl _ W0).setB 15 _);have h2:=h0.wrote hK ((h0.hd.peer true).as {s with peer:=true,vs:=s.vs} rfl) rfl rfl rfl rfl ⟨h0.sok.state,h0.sok.vs,h0.sok.va,h0.sok.vr,h0.sok.vm,h0.sok.q20,h0.sok.q32,h0.sok.timer,h0.sok.tries,h0.sok.came⟩;have HU:=hide (Upd.of hbA2 (h0.upd hK));have HR:=hide (And.intro h2 (Xa HU));clear h h0 h2 hK hA0 hbA hbA2 HU;go_wp2
 go_end0
 exact⟨rfl,_,⟨_,_,_,_,_,_,(Xa HR).1⟩,(Xa HR).2⟩
theorem XlN (h:TAt w own i b c s cl q cm o ev ce oe)(fa:Int)(n:Nat)(_hn:n<c.m)(fns:Int)(fq:Option Addr)(fl fc:Nat):
  Calls Tryz.prog 150 #[.pointer (some ⟨b,0,none⟩),.agg #[.int .i64 fa,.int .i64 3,.bool false,.int .i64 fns,.int .i64 (n:Nat),.slice fq fl fc],.bool true] w fun e w'=>XA i b c ({s with peer:=true,vs:=s.vs}) cl own w e w':=by
 have hlt:=h.lt;have hA0:=Xg w (.cells #[.int .i64 fa,.int .i64 3,.bool false,.int .i64 fns,.int .i64 (n:Nat),.slice fq fl fc] 30);have hbA:=(Below.refl w.heap.size w).alloc (Nat.le_refl _) (.cells #[.int .i64 fa,.int .i64 3,.bool false,.int .i64 fns,.int .i64 (n:Nat),.slice fq fl fc] 30);go_enter Tryz.func150,Tryz.ntmps150
 go_upto_region 1 with fail
 generalize w.alloc (.cells #[.int .i64 fa,.int .i64 3,.bool false,.int .i64 fns,.int .i64 (n:Nat),.slice fq fl fc] 30)=W0 at*;generalize hnB:w.heap.size=nB at*;have y1:W0.cell? ⟨nB,1,none⟩=some (.int .i64 3):=by rw[Lib.cell_of_heap hA0];rfl
 have y2:W0.cell? ⟨nB,2,none⟩=some (.bool false):=by rw[Lib.cell_of_heap hA0];rfl
 have y4:W0.cell? ⟨nB,4,none⟩=some (.int .i64 (n:Nat)):=by rw[Lib.cell_of_heap hA0];rfl
 have hbA2:Below w.heap.size w W0:=hnB▸hbA;have h0:=h.later hbA2;have c7:=h0.c7;have c12:=h0.c12;have c14:=h0.c14;have c15:=h0.c15;skip
 have fz:=h0.fz;have n1:¬nB=b:=by omega
 have n2:¬b=nB:=by omega
 have hK:Xb (· =b) W0 (W0.setCell ⟨b,15,none⟩ (.bool true)):=((Xb.refl _ W0).setB 15 _);have h2:=h0.wrote hK ((h0.hd.peer true).as {s with peer:=true,vs:=s.vs} rfl) rfl rfl rfl rfl ⟨h0.sok.state,h0.sok.vs,h0.sok.va,h0.sok.vr,h0.sok.vm,h0.sok.q20,h0.sok.q32,h0.sok.timer,h0.sok.tries,h0.sok.came⟩;have HU:=hide (Upd.of hbA2 (h0.upd hK));have HR:=hide (And.intro h2 (Xa HU));clear h h0 h2 hK hA0 hbA hbA2 HU;go_wp2
 go_end0
 exact⟨rfl,_,⟨_,_,_,_,_,_,(Xa HR).1⟩,(Xa HR).2⟩
theorem XlP (h:TAt w own i b c s cl q cm o ev ce oe)(fa:Int)(n:Nat)(_hn:n<c.m)(fns:Int)(fq:Option Addr)(fl fc:Nat)(hl:s.out.length≤2199023255552):
  Calls Tryz.prog 150 #[.pointer (some ⟨b,0,none⟩),.agg #[.int .i64 fa,.int .i64 3,.bool true,.int .i64 fns,.int .i64 (n:Nat),.slice fq fl fc],.bool true] w fun e w'=>XA i b c (answer c true {s with peer:=true,vs:=s.vs}) cl own w e w':=by
 have hlt:=h.lt;have hA0:=Xg w (.cells #[.int .i64 fa,.int .i64 3,.bool true,.int .i64 fns,.int .i64 (n:Nat),.slice fq fl fc] 30);have hbA:=(Below.refl w.heap.size w).alloc (Nat.le_refl _) (.cells #[.int .i64 fa,.int .i64 3,.bool true,.int .i64 fns,.int .i64 (n:Nat),.slice fq fl fc] 30);go_enter Tryz.func150,Tryz.ntmps150
 go_upto_region 1 with fail
 generalize w.alloc (.cells #[.int .i64 fa,.int .i64 3,.bool true,.int .i64 fns,.int .i64 (n:Nat),.slice fq fl fc] 30)=W0 at*;generalize hnB:w.heap.size=nB at*;have y1:W0.cell? ⟨nB,1,none⟩=some (.int .i64 3):=by rw[Lib.cell_of_heap hA0];rfl
 have y2:W0.cell? ⟨nB,2,none⟩=some (.bool true):=by rw[Lib.cell_of_heap hA0];rfl
 have y4:W0.cell? ⟨nB,4,none⟩=some (.int .i64 (n:Nat)):=by rw[Lib.cell_of_heap hA0];rfl
 have hbA2:Below w.heap.size w W0:=hnB▸hbA;have h0:=h.later hbA2;have c7:=h0.c7;have c12:=h0.c12;have c14:=h0.c14;have c15:=h0.c15;skip
 have fz:=h0.fz;have n1:¬nB=b:=by omega
 have n2:¬b=nB:=by omega
 have hK:Xb (· =b) W0 (W0.setCell ⟨b,15,none⟩ (.bool true)):=((Xb.refl _ W0).setB 15 _);have h2:=h0.wrote hK ((h0.hd.peer true).as {s with peer:=true,vs:=s.vs} rfl) rfl rfl rfl rfl ⟨h0.sok.state,h0.sok.vs,h0.sok.va,h0.sok.vr,h0.sok.vm,h0.sok.q20,h0.sok.q32,h0.sok.timer,h0.sok.tries,h0.sok.came⟩;have HU:=hide (Upd.of hbA2 (h0.upd hK));have K2:=hide (ZP h2 false true hl);clear h h0 h2 hK hA0 hbA hbA2;go_wp2_with fail
 refine(Xa K2).mono ?_;rintro e w2 ⟨rfl,own2,o2,oe2,h3,u3⟩;have HR:=hide (And.intro h3 ((Xa HU).trans u3));clear h3 u3 K2 HU c7 c12 c14 c15 fz y1 y2 y4;go_wp2
 go_end0
 exact⟨rfl,_,⟨_,_,_,_,_,_,(Xa HR).1⟩,(Xa HR).2⟩
theorem Xip (h:TAt w own i b c s cl q cm o ev ce oe)(fa:Int)(n:Nat)(hn:n<c.m)(fns:Int)(fq:Option Addr)(fl fc:Nat)(hpol:s.Xh=true):
  Calls Tryz.prog 150 #[.pointer (some ⟨b,0,none⟩),.agg #[.int .i64 fa,.int .i64 3,.bool true,.int .i64 fns,.int .i64 (n:Nat),.slice fq fl fc],.bool false] w fun e w'=>XA i b c ({s with peer:=true,vs:=n,Xh:=false,timer:=0}) cl own w e w':=by
 have hlt:=h.lt;have hA0:=Xg w (.cells #[.int .i64 fa,.int .i64 3,.bool true,.int .i64 fns,.int .i64 (n:Nat),.slice fq fl fc] 30);have hbA:=(Below.refl w.heap.size w).alloc (Nat.le_refl _) (.cells #[.int .i64 fa,.int .i64 3,.bool true,.int .i64 fns,.int .i64 (n:Nat),.slice fq fl fc] 30);go_enter Tryz.func150,Tryz.ntmps150
 go_upto_region 1 with fail
 generalize w.alloc (.cells #[.int .i64 fa,.int .i64 3,.bool true,.int .i64 fns,.int .i64 (n:Nat),.slice fq fl fc] 30)=W0 at*;generalize hnB:w.heap.size=nB at*;have y1:W0.cell? ⟨nB,1,none⟩=some (.int .i64 3):=by rw[Lib.cell_of_heap hA0];rfl
 have y2:W0.cell? ⟨nB,2,none⟩=some (.bool true):=by rw[Lib.cell_of_heap hA0];rfl
 have y4:W0.cell? ⟨nB,4,none⟩=some (.int .i64 (n:Nat)):=by rw[Lib.cell_of_heap hA0];rfl
 have hbA2:Below w.heap.size w W0:=hnB▸hbA;have h0:=h.later hbA2;have c7:=h0.c7;have c12:=h0.c12;have c14:=h0.c14;have c15:=h0.c15;rw[hpol]at c14;have fz:=h0.fz;have n1:¬nB=b:=by omega
 have n2:¬b=nB:=by omega
 have hK:Xb (· =b) W0 ((((W0.setCell ⟨b,15,none⟩ (.bool true)).setCell ⟨b,14,none⟩ (.bool false)).setCell ⟨b,7,none⟩ (.int .i64 (n:Nat))).setCell ⟨b,12,none⟩ (.int .i64 (0:Nat))):=(((((Xb.refl _ W0).setB 15 _).setB 14 _).setB 7 _).setB 12 _);have h2:=h0.wrote hK (((((h0.hd.peer true).Xh false).vs n).timer 0).as {s with peer:=true,vs:=n,Xh:=false,timer:=0} rfl) rfl rfl rfl rfl ⟨h0.sok.state,hn,h0.sok.va,h0.sok.vr,h0.sok.vm,h0.sok.q20,h0.sok.q32,Nat.zero_le _,h0.sok.tries,h0.sok.came⟩;have HU:=hide (Upd.of hbA2 (h0.upd hK));have HR:=hide (And.intro h2 (Xa HU));clear h h0 h2 hK hA0 hbA hbA2 HU;go_wp2
 go_end0
 exact⟨rfl,_,⟨_,_,_,_,_,_,(Xa HR).1⟩,(Xa HR).2⟩
theorem Xio (h:TAt w own i b c s cl q cm o ev ce oe)(fa:Int)(n:Nat)(_hn:n<c.m)(fns:Int)(fq:Option Addr)(fl fc:Nat)(hpol:s.Xh=false):
  Calls Tryz.prog 150 #[.pointer (some ⟨b,0,none⟩),.agg #[.int .i64 fa,.int .i64 3,.bool true,.int .i64 fns,.int .i64 (n:Nat),.slice fq fl fc],.bool false] w fun e w'=>XA i b c ({s with peer:=true,vs:=s.vs}) cl own w e w':=by
 have hlt:=h.lt;have hA0:=Xg w (.cells #[.int .i64 fa,.int .i64 3,.bool true,.int .i64 fns,.int .i64 (n:Nat),.slice fq fl fc] 30);have hbA:=(Below.refl w.heap.size w).alloc (Nat.le_refl _) (.cells #[.int .i64 fa,.int .i64 3,.bool true,.int .i64 fns,.int .i64 (n:Nat),.slice fq fl fc] 30);go_enter Tryz.func150,Tryz.ntmps150
 go_upto_region 1 with fail
 generalize w.alloc (.cells #[.int .i64 fa,.int .i64 3,.bool true,.int .i64 fns,.int .i64 (n:Nat),.slice fq fl fc] 30)=W0 at*;generalize hnB:w.heap.size=nB at*;have y1:W0.cell? ⟨nB,1,none⟩=some (.int .i64 3):=by rw[Lib.cell_of_heap hA0];rfl
 have y2:W0.cell? ⟨nB,2,none⟩=some (.bool true):=by rw[Lib.cell_of_heap hA0];rfl
 have y4:W0.cell? ⟨nB,4,none⟩=some (.int .i64 (n:Nat)):=by rw[Lib.cell_of_heap hA0];rfl
 have hbA2:Below w.heap.size w W0:=hnB▸hbA;have h0:=h.later hbA2;have c7:=h0.c7;have c12:=h0.c12;have c14:=h0.c14;have c15:=h0.c15;rw[hpol]at c14;have fz:=h0.fz;have n1:¬nB=b:=by omega
 have n2:¬b=nB:=by omega
 have hK:Xb (· =b) W0 (W0.setCell ⟨b,15,none⟩ (.bool true)):=((Xb.refl _ W0).setB 15 _);have h2:=h0.wrote hK ((h0.hd.peer true).as {s with peer:=true,vs:=s.vs} rfl) rfl rfl rfl rfl ⟨h0.sok.state,h0.sok.vs,h0.sok.va,h0.sok.vr,h0.sok.vm,h0.sok.q20,h0.sok.q32,h0.sok.timer,h0.sok.tries,h0.sok.came⟩;have HU:=hide (Upd.of hbA2 (h0.upd hK));have HR:=hide (And.intro h2 (Xa HU));clear h h0 h2 hK hA0 hbA hbA2 HU;go_wp2
 go_end0
 exact⟨rfl,_,⟨_,_,_,_,_,_,(Xa HR).1⟩,(Xa HR).2⟩
theorem XlR (h:TAt w own i b c s cl q cm o ev ce oe)(fa:Int)(n:Nat)(hn:n<c.m)(fns:Int)(fq:Option Addr)(fl fc:Nat):
  Calls Tryz.prog 150 #[.pointer (some ⟨b,0,none⟩),.agg #[.int .i64 fa,.int .i64 4,.bool false,.int .i64 fns,.int .i64 (n:Nat),.slice fq fl fc],.bool false] w fun e w'=>XA i b c ({s with peer:=false,vs:=n}) cl own w e w':=by
 have hlt:=h.lt;have hA0:=Xg w (.cells #[.int .i64 fa,.int .i64 4,.bool false,.int .i64 fns,.int .i64 (n:Nat),.slice fq fl fc] 30);have hbA:=(Below.refl w.heap.size w).alloc (Nat.le_refl _) (.cells #[.int .i64 fa,.int .i64 4,.bool false,.int .i64 fns,.int .i64 (n:Nat),.slice fq fl fc] 30);go_enter Tryz.func150,Tryz.ntmps150
 go_upto_region 1 with fail
 generalize w.alloc (.cells #[.int .i64 fa,.int .i64 4,.bool false,.int .i64 fns,.int .i64 (n:Nat),.slice fq fl fc] 30)=W0 at*;generalize hnB:w.heap.size=nB at*;have y1:W0.cell? ⟨nB,1,none⟩=some (.int .i64 4):=by rw[Lib.cell_of_heap hA0];rfl
 have y2:W0.cell? ⟨nB,2,none⟩=some (.bool false):=by rw[Lib.cell_of_heap hA0];rfl
 have y4:W0.cell? ⟨nB,4,none⟩=some (.int .i64 (n:Nat)):=by rw[Lib.cell_of_heap hA0];rfl
 have hbA2:Below w.heap.size w W0:=hnB▸hbA;have h0:=h.later hbA2;have c7:=h0.c7;have c12:=h0.c12;have c14:=h0.c14;have c15:=h0.c15;skip
 have fz:=h0.fz;have n1:¬nB=b:=by omega
 have n2:¬b=nB:=by omega
 have hK:Xb (· =b) W0 ((W0.setCell ⟨b,15,none⟩ (.bool false)).setCell ⟨b,7,none⟩ (.int .i64 (n:Nat))):=(((Xb.refl _ W0).setB 15 _).setB 7 _);have h2:=h0.wrote hK (((h0.hd.peer false).vs n).as {s with peer:=false,vs:=n} rfl) rfl rfl rfl rfl ⟨h0.sok.state,hn,h0.sok.va,h0.sok.vr,h0.sok.vm,h0.sok.q20,h0.sok.q32,h0.sok.timer,h0.sok.tries,h0.sok.came⟩;have HU:=hide (Upd.of hbA2 (h0.upd hK));have HR:=hide (And.intro h2 (Xa HU));clear h h0 h2 hK hA0 hbA hbA2 HU;go_wp2
 go_end0
 exact⟨rfl,_,⟨_,_,_,_,_,_,(Xa HR).1⟩,(Xa HR).2⟩
theorem XlQ (h:TAt w own i b c s cl q cm o ev ce oe)(fa:Int)(n:Nat)(hn:n<c.m)(fns:Int)(fq:Option Addr)(fl fc:Nat):
  Calls Tryz.prog 150 #[.pointer (some ⟨b,0,none⟩),.agg #[.int .i64 fa,.int .i64 4,.bool false,.int .i64 fns,.int .i64 (n:Nat),.slice fq fl fc],.bool true] w fun e w'=>XA i b c ({s with peer:=false,vs:=n}) cl own w e w':=by
 have hlt:=h.lt;have hA0:=Xg w (.cells #[.int .i64 fa,.int .i64 4,.bool false,.int .i64 fns,.int .i64 (n:Nat),.slice fq fl fc] 30);have hbA:=(Below.refl w.heap.size w).alloc (Nat.le_refl _) (.cells #[.int .i64 fa,.int .i64 4,.bool false,.int .i64 fns,.int .i64 (n:Nat),.slice fq fl fc] 30);go_enter Tryz.func150,Tryz.ntmps150
 go_upto_region 1 with fail
 generalize w.alloc (.cells #[.int .i64 fa,.int .i64 4,.bool false,.int .i64 fns,.int .i64 (n:Nat),.slice fq fl fc] 30)=W0 at*;generalize hnB:w.heap.size=nB at*;have y1:W0.cell? ⟨nB,1,none⟩=some (.int .i64 4):=by rw[Lib.cell_of_heap hA0];rfl
 have y2:W0.cell? ⟨nB,2,none⟩=some (.bool false):=by rw[Lib.cell_of_heap hA0];rfl
 have y4:W0.cell? ⟨nB,4,none⟩=some (.int .i64 (n:Nat)):=by rw[Lib.cell_of_heap hA0];rfl
 have hbA2:Below w.heap.size w W0:=hnB▸hbA;have h0:=h.later hbA2;have c7:=h0.c7;have c12:=h0.c12;have c14:=h0.c14;have c15:=h0.c15;skip
 have fz:=h0.fz;have n1:¬nB=b:=by omega
 have n2:¬b=nB:=by omega
 have hK:Xb (· =b) W0 ((W0.setCell ⟨b,15,none⟩ (.bool false)).setCell ⟨b,7,none⟩ (.int .i64 (n:Nat))):=(((Xb.refl _ W0).setB 15 _).setB 7 _);have h2:=h0.wrote hK (((h0.hd.peer false).vs n).as {s with peer:=false,vs:=n} rfl) rfl rfl rfl rfl ⟨h0.sok.state,hn,h0.sok.va,h0.sok.vr,h0.sok.vm,h0.sok.q20,h0.sok.q32,h0.sok.timer,h0.sok.tries,h0.sok.came⟩;have HU:=hide (Upd.of hbA2 (h0.upd hK));have HR:=hide (And.intro h2 (Xa HU));clear h h0 h2 hK hA0 hbA hbA2 HU;go_wp2
 go_end0
 exact⟨rfl,_,⟨_,_,_,_,_,_,(Xa HR).1⟩,(Xa HR).2⟩
theorem XlS (h:TAt w own i b c s cl q cm o ev ce oe)(fa:Int)(n:Nat)(hn:n<c.m)(fns:Int)(fq:Option Addr)(fl fc:Nat)(hl:s.out.length≤2199023255552):
  Calls Tryz.prog 150 #[.pointer (some ⟨b,0,none⟩),.agg #[.int .i64 fa,.int .i64 4,.bool true,.int .i64 fns,.int .i64 (n:Nat),.slice fq fl fc],.bool true] w fun e w'=>XA i b c (answer c true {s with peer:=false,vs:=n}) cl own w e w':=by
 have hlt:=h.lt;have hA0:=Xg w (.cells #[.int .i64 fa,.int .i64 4,.bool true,.int .i64 fns,.int .i64 (n:Nat),.slice fq fl fc] 30);have hbA:=(Below.refl w.heap.size w).alloc (Nat.le_refl _) (.cells #[.int .i64 fa,.int .i64 4,.bool true,.int .i64 fns,.int .i64 (n:Nat),.slice fq fl fc] 30);go_enter Tryz.func150,Tryz.ntmps150
 go_upto_region 1 with fail
 generalize w.alloc (.cells #[.int .i64 fa,.int .i64 4,.bool true,.int .i64 fns,.int .i64 (n:Nat),.slice fq fl fc] 30)=W0 at*;generalize hnB:w.heap.size=nB at*;have y1:W0.cell? ⟨nB,1,none⟩=some (.int .i64 4):=by rw[Lib.cell_of_heap hA0];rfl
 have y2:W0.cell? ⟨nB,2,none⟩=some (.bool true):=by rw[Lib.cell_of_heap hA0];rfl
 have y4:W0.cell? ⟨nB,4,none⟩=some (.int .i64 (n:Nat)):=by rw[Lib.cell_of_heap hA0];rfl
 have hbA2:Below w.heap.size w W0:=hnB▸hbA;have h0:=h.later hbA2;have c7:=h0.c7;have c12:=h0.c12;have c14:=h0.c14;have c15:=h0.c15;skip
 have fz:=h0.fz;have n1:¬nB=b:=by omega
 have n2:¬b=nB:=by omega
 have hK:Xb (· =b) W0 ((W0.setCell ⟨b,15,none⟩ (.bool false)).setCell ⟨b,7,none⟩ (.int .i64 (n:Nat))):=(((Xb.refl _ W0).setB 15 _).setB 7 _);have h2:=h0.wrote hK (((h0.hd.peer false).vs n).as {s with peer:=false,vs:=n} rfl) rfl rfl rfl rfl ⟨h0.sok.state,hn,h0.sok.va,h0.sok.vr,h0.sok.vm,h0.sok.q20,h0.sok.q32,h0.sok.timer,h0.sok.tries,h0.sok.came⟩;have HU:=hide (Upd.of hbA2 (h0.upd hK));have K2:=hide (ZP h2 false true hl);clear h h0 h2 hK hA0 hbA hbA2;go_wp2_with fail
 refine(Xa K2).mono ?_;rintro e w2 ⟨rfl,own2,o2,oe2,h3,u3⟩;have HR:=hide (And.intro h3 ((Xa HU).trans u3));clear h3 u3 K2 HU c7 c12 c14 c15 fz y1 y2 y4;go_wp2
 go_end0
 exact⟨rfl,_,⟨_,_,_,_,_,_,(Xa HR).1⟩,(Xa HR).2⟩
theorem Xir (h:TAt w own i b c s cl q cm o ev ce oe)(fa:Int)(n:Nat)(hn:n<c.m)(fns:Int)(fq:Option Addr)(fl fc:Nat)(hpol:s.Xh=true):
  Calls Tryz.prog 150 #[.pointer (some ⟨b,0,none⟩),.agg #[.int .i64 fa,.int .i64 4,.bool true,.int .i64 fns,.int .i64 (n:Nat),.slice fq fl fc],.bool false] w fun e w'=>XA i b c ({s with peer:=false,vs:=n,Xh:=false,timer:=0}) cl own w e w':=by
 have hlt:=h.lt;have hA0:=Xg w (.cells #[.int .i64 fa,.int .i64 4,.bool true,.int .i64 fns,.int .i64 (n:Nat),.slice fq fl fc] 30);have hbA:=(Below.refl w.heap.size w).alloc (Nat.le_refl _) (.cells #[.int .i64 fa,.int .i64 4,.bool true,.int .i64 fns,.int .i64 (n:Nat),.slice fq fl fc] 30);go_enter Tryz.func150,Tryz.ntmps150
 go_upto_region 1 with fail
 generalize w.alloc (.cells #[.int .i64 fa,.int .i64 4,.bool true,.int .i64 fns,.int .i64 (n:Nat),.slice fq fl fc] 30)=W0 at*;generalize hnB:w.heap.size=nB at*;have y1:W0.cell? ⟨nB,1,none⟩=some (.int .i64 4):=by rw[Lib.cell_of_heap hA0];rfl
 have y2:W0.cell? ⟨nB,2,none⟩=some (.bool true):=by rw[Lib.cell_of_heap hA0];rfl
 have y4:W0.cell? ⟨nB,4,none⟩=some (.int .i64 (n:Nat)):=by rw[Lib.cell_of_heap hA0];rfl
 have hbA2:Below w.heap.size w W0:=hnB▸hbA;have h0:=h.later hbA2;have c7:=h0.c7;have c12:=h0.c12;have c14:=h0.c14;have c15:=h0.c15;rw[hpol]at c14;have fz:=h0.fz;have n1:¬nB=b:=by omega
 have n2:¬b=nB:=by omega
 have hK:Xb (· =b) W0 (((((W0.setCell ⟨b,15,none⟩ (.bool false)).setCell ⟨b,7,none⟩ (.int .i64 (n:Nat))).setCell ⟨b,14,none⟩ (.bool false)).setCell ⟨b,7,none⟩ (.int .i64 (n:Nat))).setCell ⟨b,12,none⟩ (.int .i64 (0:Nat))):=((((((Xb.refl _ W0).setB 15 _).setB 7 _).setB 14 _).setB 7 _).setB 12 _);have h2:=h0.wrote hK ((((((h0.hd.peer false).vs n).Xh false).vs n).timer 0).as {s with peer:=false,vs:=n,Xh:=false,timer:=0} rfl) rfl rfl rfl rfl ⟨h0.sok.state,hn,h0.sok.va,h0.sok.vr,h0.sok.vm,h0.sok.q20,h0.sok.q32,Nat.zero_le _,h0.sok.tries,h0.sok.came⟩;have HU:=hide (Upd.of hbA2 (h0.upd hK));have HR:=hide (And.intro h2 (Xa HU));clear h h0 h2 hK hA0 hbA hbA2 HU;go_wp2
 go_end0
 exact⟨rfl,_,⟨_,_,_,_,_,_,(Xa HR).1⟩,(Xa HR).2⟩
theorem Xiq (h:TAt w own i b c s cl q cm o ev ce oe)(fa:Int)(n:Nat)(hn:n<c.m)(fns:Int)(fq:Option Addr)(fl fc:Nat)(hpol:s.Xh=false):
  Calls Tryz.prog 150 #[.pointer (some ⟨b,0,none⟩),.agg #[.int .i64 fa,.int .i64 4,.bool true,.int .i64 fns,.int .i64 (n:Nat),.slice fq fl fc],.bool false] w fun e w'=>XA i b c ({s with peer:=false,vs:=n}) cl own w e w':=by
 have hlt:=h.lt;have hA0:=Xg w (.cells #[.int .i64 fa,.int .i64 4,.bool true,.int .i64 fns,.int .i64 (n:Nat),.slice fq fl fc] 30);have hbA:=(Below.refl w.heap.size w).alloc (Nat.le_refl _) (.cells #[.int .i64 fa,.int .i64 4,.bool true,.int .i64 fns,.int .i64 (n:Nat),.slice fq fl fc] 30);go_enter Tryz.func150,Tryz.ntmps150
 go_upto_region 1 with fail
 generalize w.alloc (.cells #[.int .i64 fa,.int .i64 4,.bool true,.int .i64 fns,.int .i64 (n:Nat),.slice fq fl fc] 30)=W0 at*;generalize hnB:w.heap.size=nB at*;have y1:W0.cell? ⟨nB,1,none⟩=some (.int .i64 4):=by rw[Lib.cell_of_heap hA0];rfl
 have y2:W0.cell? ⟨nB,2,none⟩=some (.bool true):=by rw[Lib.cell_of_heap hA0];rfl
 have y4:W0.cell? ⟨nB,4,none⟩=some (.int .i64 (n:Nat)):=by rw[Lib.cell_of_heap hA0];rfl
 have hbA2:Below w.heap.size w W0:=hnB▸hbA;have h0:=h.later hbA2;have c7:=h0.c7;have c12:=h0.c12;have c14:=h0.c14;have c15:=h0.c15;rw[hpol]at c14;have fz:=h0.fz;have n1:¬nB=b:=by omega
 have n2:¬b=nB:=by omega
 have hK:Xb (· =b) W0 ((W0.setCell ⟨b,15,none⟩ (.bool false)).setCell ⟨b,7,none⟩ (.int .i64 (n:Nat))):=(((Xb.refl _ W0).setB 15 _).setB 7 _);have h2:=h0.wrote hK (((h0.hd.peer false).vs n).as {s with peer:=false,vs:=n} rfl) rfl rfl rfl rfl ⟨h0.sok.state,hn,h0.sok.va,h0.sok.vr,h0.sok.vm,h0.sok.q20,h0.sok.q32,h0.sok.timer,h0.sok.tries,h0.sok.came⟩;have HU:=hide (Upd.of hbA2 (h0.upd hK));have HR:=hide (And.intro h2 (Xa HU));clear h h0 h2 hK hA0 hbA hbA2 HU;go_wp2
 go_end0
 exact⟨rfl,_,⟨_,_,_,_,_,_,(Xa HR).1⟩,(Xa HR).2⟩
theorem Qv (h:TAt w own i b c s cl q cm o ev ce oe)(f:Fr)(cmd:Bool)(n:Nat)(hnr:f.nr=n)(hn:n<c.m)(hk:f.k=2∨f.k=3∨f.k=4)(hcmd:X8 c f=cmd)(fq:Option Addr)(fc:Nat)(hl:s.out.length≤2199023255552):
  Calls Tryz.prog 150 #[.pointer (some ⟨b,0,none⟩),frV f fq fc,.bool cmd] w fun e w'=>XA i b c (Xn c f s) cl own w e w':=by
 obtain⟨fa,fk,fp,fns,fnr,info⟩:=f;simp only at hnr hk;subst hnr;unfold frV;simp only;rcases hk with rfl|rfl|rfl
 ·cases fp
  ·cases cmd
   ·have e:Xn c ⟨fa,2,false,fns,(n:Int),info⟩ s={s with peer:=false,vs:=s.vs}:=rfl;rw[e];exact XlL h fa n hn fns fq info.length fc
   ·have e:Xn c ⟨fa,2,false,fns,(n:Int),info⟩ s={s with peer:=false,vs:=s.vs}:=rfl;rw[e];exact XlK h fa n hn fns fq info.length fc
  ·cases cmd
   ·cases hpol:s.Xh
    ·have e:Xn c ⟨fa,2,true,fns,(n:Int),info⟩ s={s with peer:=false,vs:=s.vs}:=by
      unfold Xn;simp only[hcmd];simp[hpol]
     rw[e];exact Xim h fa n hn fns fq info.length fc hpol
    ·have e:Xn c ⟨fa,2,true,fns,(n:Int),info⟩ s={s with peer:=false,vs:=n,Xh:=false,timer:=0}:=by
      unfold Xn;simp only[hcmd];simp[hpol]
     rw[e];exact Xin h fa n hn fns fq info.length fc hpol
   ·have e:Xn c ⟨fa,2,true,fns,(n:Int),info⟩ s=answer c true {s with peer:=false,vs:=s.vs}:=by
     unfold Xn;simp only[hcmd];simp
    rw[e];exact XlM h fa n hn fns fq info.length fc hl
 ·cases fp
  ·cases cmd
   ·have e:Xn c ⟨fa,3,false,fns,(n:Int),info⟩ s={s with peer:=true,vs:=s.vs}:=rfl;rw[e];exact XlO h fa n hn fns fq info.length fc
   ·have e:Xn c ⟨fa,3,false,fns,(n:Int),info⟩ s={s with peer:=true,vs:=s.vs}:=rfl;rw[e];exact XlN h fa n hn fns fq info.length fc
  ·cases cmd
   ·cases hpol:s.Xh
    ·have e:Xn c ⟨fa,3,true,fns,(n:Int),info⟩ s={s with peer:=true,vs:=s.vs}:=by
      unfold Xn;simp only[hcmd];simp[hpol]
     rw[e];exact Xio h fa n hn fns fq info.length fc hpol
    ·have e:Xn c ⟨fa,3,true,fns,(n:Int),info⟩ s={s with peer:=true,vs:=n,Xh:=false,timer:=0}:=by
      unfold Xn;simp only[hcmd];simp[hpol]
     rw[e];exact Xip h fa n hn fns fq info.length fc hpol
   ·have e:Xn c ⟨fa,3,true,fns,(n:Int),info⟩ s=answer c true {s with peer:=true,vs:=s.vs}:=by
     unfold Xn;simp only[hcmd];simp
    rw[e];exact XlP h fa n hn fns fq info.length fc hl
 ·cases fp
  ·cases cmd
   ·have e:Xn c ⟨fa,4,false,fns,(n:Int),info⟩ s={s with peer:=false,vs:=n}:=rfl;rw[e];exact XlR h fa n hn fns fq info.length fc
   ·have e:Xn c ⟨fa,4,false,fns,(n:Int),info⟩ s={s with peer:=false,vs:=n}:=rfl;rw[e];exact XlQ h fa n hn fns fq info.length fc
  ·cases cmd
   ·cases hpol:s.Xh
    ·have e:Xn c ⟨fa,4,true,fns,(n:Int),info⟩ s={s with peer:=false,vs:=n}:=by
      unfold Xn;simp only[hcmd];simp[hpol]
     rw[e];exact Xiq h fa n hn fns fq info.length fc hpol
    ·have e:Xn c ⟨fa,4,true,fns,(n:Int),info⟩ s={s with peer:=false,vs:=n,Xh:=false,timer:=0}:=by
      unfold Xn;simp only[hcmd];simp[hpol]
     rw[e];exact Xir h fa n hn fns fq info.length fc hpol
   ·have e:Xn c ⟨fa,4,true,fns,(n:Int),info⟩ s=answer c true {s with peer:=false,vs:=n}:=by
     unfold Xn;simp only[hcmd];simp
    rw[e];exact XlS h fa n hn fns fq info.length fc hl
end
theorem BytesAt.Xcp {w w':World}{own own':Nat→Nat}{t:Nat}{x:Value}{m:Msg}{X:Nat→Prop}(h:BytesAt w own t x m)(hk:Xb X w w')(hx:∀k,X k→own k≠t)(ho:∀k,k<w.heap.size→own k=t→own' k=t):BytesAt w' own' t x m:=
 ⟨Xc h.1 hk (fun k hb hX=>hx k hX (h.2 k hb)),fun k hb=>ho k (World.ownsRow.lt h.1 k hb).2 (h.2 k hb)⟩
theorem YZ.Xcp {w w':World}{own own':Nat→Nat}{t:Nat}{v:Value}{l:List Msg}{X:Nat→Prop}(h:YZ w own t v l)(hk:Xb X w w')(hx:∀k,X k→own k≠t)(ho:∀k,k<w.heap.size→own k=t→own' k=t):YZ w' own' t v l:=by
 obtain⟨p,cap,rfl,h1,h2,h3⟩:=h;refine⟨p,cap,rfl,h1,h2,?_⟩;rcases h3 with h3|⟨g,off,cur,rfl,hg,hc,hs,he⟩
 ·exact .inl h3
 ·have hlt:=(Array.getElem?_eq_some_iff.1 hc).1;refine .inr ⟨g,off,cur,rfl,ho g hlt hg,?_,hs,fun j m hj=> ?_⟩
  ·rw[hk.block g hlt (fun hX=>hx g hX hg)];exact hc
  ·obtain ⟨x,hx1,hx2⟩:=he j m hj;exact⟨x,hx1,hx2.Xcp hk hx ho⟩
section
variable {w W:World}{own:Nat→Nat}{i b:Nat}{c:Cfg}{s:St}{cl:Bool}{q cm o ev:Value}{ce oe:List Value}
def Xag (T:Option Nat)(i b:Nat)(c:Cfg)(s':St)(cl:Bool)(own:Nat→Nat)(w:World)(e:Ending)(w':World):Prop:=
 e=.returned (.tuple #[])∧∃own',Ttn w' own' i b c s' cl∧Zv T i own own' w w'
theorem XA.t {T:Option Nat}{s':St}{e:Ending}{w':World}(h:XA i b c s' cl own w e w'):Xag T i b c s' cl own w e w':=⟨h.1,h.2.choose,h.2.choose_spec.1,h.2.choose_spec.2.t⟩
theorem TAt.Xf7 (h:TAt w own i b c s cl q cm o ev ce oe){v cm':Value}{m:Msg}{w2 w3:World}
  (hv:w.ownsRow 0 5 1 v m.length (Lib.byteCells m)) (hfree:∀k,v.ownBlock=some k→own k=0∧k≠0)
  (hb2:Below w.heap.size w w2) (hg:w2.grownBy w3 cm.ownBlock) (hrow:w3.ownsRow 0 28 1 cm' (s.came.length+1) (ce++[v]))
  (hob:cm'.ownBlock=cm.ownBlock∨∃k,cm'.ownBlock=some k∧w2.heap.size≤k) (hroom:s.came.length+1≤c.room):
  TAt (w3.setCell ⟨b,18,none⟩ cm') (YA own w.heap.size w3.heap.size (tg i 2) v.ownBlock) i b c {s with came:=s.came++[m]} cl q cm' o ev (ce++[v]) oe∧Zv v.ownBlock i own (YA own w.heap.size w3.heap.size (tg i 2) v.ownBlock) w (w3.setCell ⟨b,18,none⟩ cm'):=by
 have hz2:=hb2.size;have hz3:=hg.size;have hvlt:=World.ownsRow.lt hv
 have hob':∀k,cm'.ownBlock=some k→own k=tg i 2∨w.heap.size≤k:=by
  intro k hk;rcases hob with e|⟨k2,e,h2⟩
  ·rw[e]at hk;exact .inl (h.lcm.rown k hk)
  ·rw[e]at hk;simp at hk;omega
 have hK2:Xb (fun k=>some k=cm.ownBlock) w w3:=(Xb.of hb2).trans (Xb.grown hg);have hro:∀k,some k=cm.ownBlock→own k=tg i 2:=fun k hk=>h.lcm.rown k hk.symm
 have hold:∀k,k<w.heap.size→own k≠0→YA own w.heap.size w3.heap.size (tg i 2) v.ownBlock k=own k:=fun k hk h0=>by
  unfold YA;rw[if_neg (fun e=>h0 (hfree k e.symm).1)];exact XR hk
 have hold0:YA own w.heap.size w3.heap.size (tg i 2) v.ownBlock 0=0:=by
  unfold YA;rw[if_neg (fun e=>(hfree 0 e.symm).2 rfl),XR h.pos];exact h.XC
 have hbr:¬some b=cm.ownBlock:=fun e=>by have:=hro b e;rw[h.ownb]at this;exact Xz (by omega) (by omega) (.inr (by omega)) this
 have hlt:=h.lt;have hhead3:w3.heap[b]?=some (.cells (Zn c s cl q cm o ev) 137 (0,0)):=by rw[hK2.block b hlt hbr];exact h.head
 have hKb:Xb (· =b) w3 (w3.setCell ⟨b,18,none⟩ cm'):=(Xb.refl _ w3).setB _ _;have hK:Xb (fun k=>some k=cm.ownBlock∨k=b) w (w3.setCell ⟨b,18,none⟩ cm'):=(hK2.mono (fun _ h=>.inl h)).trans (hKb.mono (fun _ h=>.inr h))
 have hne:∀p,p<5→p≠0→p≠2→∀k,(some k=cm.ownBlock∨k=b)→own k≠tg i p:=by
  intro p hp h0 h3 k hk;rcases hk with hk|hk
  ·rw[hro k hk];exact Xz (by omega) hp (.inr (by omega))
  ·rw[hk,h.ownb];exact Xz (by omega) hp (.inr (by omega))
 -- lists of other parts
 have hlst:∀p,p<5→p≠0→p≠2→∀v' es l,Lst w own (tg i p) v' es l→Lst (w3.setCell ⟨b,18,none⟩ cm') (YA own w.heap.size w3.heap.size (tg i 2) v.ownBlock) (tg i p) v' es l:=by
  intro p hp h0 h2 v' es l hL;have hkk:=hL.keeps (own':=own) hK (hne p hp h0 h2) (fun _ _=>rfl);refine⟨hkk.row,fun k hk=> ?_,fun j x mm h1 h2=>⟨(hkk.each j x mm h1 h2).1,fun k hk=> ?_⟩,hL.apart⟩
  ·rw[hold k (World.ownsRow.lt hL.row k hk).2 (by rw[hL.rown k hk];exact Xq _ _)];exact hL.rown k hk
  ·have hx:=hL.each j x mm h1 h2;rw[hold k (World.ownsRow.lt hx.1 k hk).2 (by rw[hx.2 k hk];exact Xq _ _)];exact hx.2 k hk
 refine⟨⟨?_,(hold b hlt (by rw[h.ownb];exact Xq _ _)).trans h.ownb,h.lq.Xcp hK (hne 1 (by omega) (by omega) (by omega)) (fun k hk e=>(hold k hk (by rw[e];exact Xq _ _)).trans e),?_,hlst 3 (by omega) (by omega) (by omega) _ _ _ h.lo,?_,?_,hold0,?_,h.cok,⟨h.sok.state,h.sok.vs,h.sok.va,h.sok.vr,h.sok.vm,h.sok.q20,h.sok.q32,h.sok.timer,h.sok.tries,by show(s.came++[m]).length≤c.room;rw[List.length_append];exact hroom⟩⟩,⟨?_,?_⟩⟩
 ·exact Xm hhead3 cm'
 ·refine ⟨?_,?_,?_,h.lcm.snoc (fun k hk e=>by rw[(hfree k hk).1]at e;exact Xq _ _ e.symm)⟩
  ·have:(s.came++[m]).length=s.came.length+1:=by simp
   rw[this];refine Xc hrow hKb (fun k hk e=> ?_);rcases hob' k hk with h1|h1
   ·rw[e,h.ownb]at h1;exact Xz (by omega) (by omega) (.inr (by omega)) h1
   ·omega
  ·intro k hk;by_cases hT:some k=v.ownBlock
   ·simp[YA,hT]
   ·unfold YA;rw[if_neg hT];rcases hob with e|⟨k2,e,h2⟩
    ·rw[e]at hk;rw[XR (World.ownsRow.lt h.lcm.row k hk).2];exact h.lcm.rown k hk
    ·rw[e]at hk;simp at hk;have h4:=(World.ownsRow.lt hrow k2 e).2;exact YJ (by omega) (by omega)
  ·intro j x mm h1 h2;have hl:=h.lcm.len;by_cases hj:j<ce.length
   ·rw[List.getElem?_append_left hj]at h1;rw[List.getElem?_append_left (by omega)]at h2;have hx:=h.lcm.each j x mm h1 h2;refine⟨Xc hx.1 hK (fun k hk hX=> ?_),fun k hk=> ?_⟩
    ·rcases hX with hX|hX
     ·obtain ⟨c1,e1⟩:=Xd h.lcm.row hX.symm;obtain⟨c2,e2⟩:=Xd hx.1 hk;rw[e1]at e2;simp at e2
     ·have:=hx.2 k hk;rw[hX,h.ownb]at this;exact Xz (by omega) (by omega) (.inr (by omega)) this
    ·rw[hold k (World.ownsRow.lt hx.1 k hk).2 (by rw[hx.2 k hk];exact Xq _ _)];exact hx.2 k hk
   ·rw[List.getElem?_append_right (by omega)]at h1;rw[List.getElem?_append_right (by omega)]at h2;rw[hl]at h1;obtain⟨jj,hjj⟩:∃jj,j-s.came.length=jj:=⟨_,rfl⟩;rw[hjj]at h1 h2;rcases jj with _|jj
    ·simp at h1 h2;subst h1 h2;refine⟨Xc hv hK (fun k hk hX=> ?_),fun k hk=>by simp[YA,hk]⟩;have h0:=(hfree k hk).1;rcases hX with hX|hX
     ·rw[hro k hX]at h0;exact Xq _ _ h0
     ·rw[hX,h.ownb]at h0;exact Xq _ _ h0
    ·simp at h1
 ·exact Xc h.lev hK (fun k hk hX=>hne 4 (by omega) (by omega) (by omega) k hX (h.owne k hk))
 ·exact fun k hk=>(hold k (World.ownsRow.lt h.lev k hk).2 (by rw[h.owne k hk];exact Xq _ _)).trans (h.owne k hk)
 ·intro k hk;rw[size_setCell]at hk;unfold YA;rw[if_neg (fun e=>by have:=(hvlt k e.symm).2;omega)];exact ZI (by omega) hk
 ·exact hK.mono (fun k hk=>by rcases hk with hk|hk;exact .inl ⟨2,by omega,hro k hk⟩;exact .inl ⟨0,by omega,by rw[hk];exact h.ownb⟩)
 ·intro k hk hT;unfold YA;rw[if_neg hT];exact XR hk
end
theorem XkL (w:World)(o1 o2 o3 o4:Obj):(convert 28 28 (.slice (some ⟨w.heap.size+1+1+1+1,0,none⟩) 1 1)).run Tryz.prog (((((w.alloc o1).alloc o2).alloc o3).alloc o4).alloc (.cells #[.int .u8 97] 5))=.ok (.slice (some ⟨w.heap.size+1+1+1+1,0,none⟩) 1 1) (((((w.alloc o1).alloc o2).alloc o3).alloc o4).alloc (.cells #[.int .u8 97] 5 (1,2))):=by
 have h:=Lib.run_convert_bytes_const (P:=Tryz.prog) ((((w.alloc o1).alloc o2).alloc o3).alloc o4) 28 5 #[.int .u8 97] 1 1 Tryz.underlying28 Tryz.underlying5;simp only[Xk]at h;exact h
def opZ:OpV:=⟨0,0,0,0,⟨#[]⟩,.slice none 0 0,⟨0,0,false,0,0,[]⟩,none,0,0,0,0,0,0,0⟩
def YW (g2 g3 g4:Nat):List OpV:=[
 {opZ with kind:=1,s:=⟨#[49,50,51,52,53,54,55,56,57]⟩},
 {opZ with kind:=2,lv:=.slice (some ⟨g2,0,none⟩) 1 1},
 {opZ with kind:=3},
 {opZ with kind:=5,lv:=.slice (some ⟨g3,0,none⟩) 2 2},
 {opZ with kind:=10,a:=8,f:=⟨3,1,true,5,2,[97]⟩,fq:=some ⟨g4,0,none⟩,fc:=1},
 {opZ with kind:=11,a:=8,s:=⟨#[3,63]⟩},
 {opZ with kind:=20,c0:=8,c1:=2,c2:=5,c3:=3,c4:=4,c5:=3},
 {opZ with kind:=20,c0:=8,c1:=2,c2:=5,c3:=3,c4:=4,c5:=1},
 {opZ with kind:=21},
 {opZ with kind:=30,b:=1},
 {opZ with kind:=30,a:=1},
 {opZ with kind:=23,s:=⟨#[97]⟩},
 {opZ with kind:=23,s:=⟨#[98]⟩},
 {opZ with kind:=23,s:=⟨#[99]⟩},
 {opZ with kind:=32},
 {opZ with kind:=30,b:=1,d:=1},
 {opZ with kind:=30,a:=1},
 {opZ with kind:=30,b:=1},
 {opZ with kind:=25,a:=1},
 {opZ with kind:=31,a:=1},
 {opZ with kind:=28}]
def X6 (os:List OpV):List Value:=(os.map YP).flatten
theorem XgF:(Tryz.prog.info? 34).map (fun i=>(i.zero,i.size,i.bytes))=some (some (.agg #[.int .i64 0,.int .i64 0,.int .i64 0,.int .i64 0,.string ⟨#[]⟩,.slice none 0 0,.int .i64 0,.int .i64 0,.bool false,.int .i64 0,.int .i64 0,.slice none 0 0,.int .i64 0,.int .i64 0,.int .i64 0,.int .i64 0,.int .i64 0,.int .i64 0]),18,184):=by kernel_rfl
theorem Xjh (g2 g3 g4:Nat):Instr.fill (fun i=>some (i*18,18)) ((Array.range (21*18)).map ((Value.cells (.agg #[.int .i64 0,.int .i64 0,.int .i64 0,.int .i64 0,.string ⟨#[]⟩,.slice none 0 0,.int .i64 0,.int .i64 0,.bool false,.int .i64 0,.int .i64 0,.slice none 0 0,.int .i64 0,.int .i64 0,.int .i64 0,.int .i64 0,.int .i64 0,.int .i64 0]))[· %(Value.cells (.agg #[.int .i64 0,.int .i64 0,.int .i64 0,.int .i64 0,.string ⟨#[]⟩,.slice none 0 0,.int .i64 0,.int .i64 0,.bool false,.int .i64 0,.int .i64 0,.slice none 0 0,.int .i64 0,.int .i64 0,.int .i64 0,.int .i64 0,.int .i64 0,.int .i64 0])).size]!)) (((YW g2 g3 g4).map opV).zipIdx.map (fun x=>(x.2,x.1)))=some (X6 (YW g2 g3 g4)).toArray:=by
 kernel_rfl
def Qy (w:World)(g:Nat)(os:List OpV):Prop:=∀j v,(X6 os)[j]?=some v→w.cell? ⟨g,j,none⟩=some v
theorem Xal (o:OpV):(YP o).length=18:=rfl
theorem XaW:∀(os:List OpV) (r:Nat) (o:OpV) (k:Nat),os[r]?=some o→k<18→(X6 os)[r*18+k]?=(YP o)[k]?:=by
 intro os;induction os with
 |nil=>intro r o k h;simp at h
 |cons p ps ih=>
  intro r o k h hk;have e:X6 (p::ps)=YP p++X6 ps:=rfl;rw[e];cases r with
  |zero=>
   simp at h;subst h;rw[Nat.zero_mul,Nat.zero_add,List.getElem?_append_left (by rw[Xal];exact hk)]
  |succ r=>
   have h':ps[r]?=some o:=by simpa using h
   rw[List.getElem?_append_right (by rw[Xal];omega),Xal,show(r+1)*18+k-18=r*18+k by omega];exact ih r o k h' hk
theorem Qy.op {w:World}{g:Nat}{os:List OpV}(h:Qy w g os){r:Nat}{o:OpV}(hr:os[r]?=some o)(k:Nat)(hk:k<18){v:Value}(hv:(YP o)[k]?=some v):w.cell? ⟨g,r*18+k,none⟩=some v:=h _ v ((XaW os r o k hr hk).trans hv)
theorem Qy.below {w w':World}{g B:Nat}{os:List OpV}(h:Qy w g os)(hb:Below B w w')(hg:g<B):Qy w' g os:=fun j v hj=>by
 rw[hb.cell (p:=⟨g,j,none⟩) hg];exact h j v hj
theorem Xab:(Tryz.prog.info? 34).map (·.size)=some 18:=by
 obtain⟨i0,hi0,_,hy1,_⟩:=info_parts XgF;rw[hi0];exact congrArg some hy1
theorem Qy.range {w:World}{g:Nat}{os:List OpV}(h:Qy w g os){r:Nat}{o:OpV}(hr:os[r]?=some o):w.rangeAt g (r*18) (YP o):=fun j _ hj=>h.op hr j (List.getElem?_eq_some_iff.1 hj).1 hj
def Xeh:Array Value:= #[.slice none 0 0,.slice none 0 0,.slice none 0 0,.slice none 0 0,.slice none 0 0,.slice none 0 0]
theorem XaK {lo hi:Int}{os:List OpV}{g cap B:Nat}{w:World}(hg:g<B)(hops:Qy w g os)(hlen:os.length≤140737488355328)(J:Nat→World→Prop)
  (h0:J 0 (w.alloc (.cells Xeh 45))) (hJ:∀r W,J r W→Below B w W)
  (hskip:∀r W,J r W→J (r+1) W)
  (hstep:∀r W o,os[r]?=some o→lo≤o.kind→o.kind≤hi→J r W→Calls Tryz.prog 12 #[.pointer (some ⟨w.heap.size,0,none⟩),opV o] W fun e W'=>e=.returned (.bool true)∧J (r+1) W')
  (hlook:∀r W,J r W→Calls Tryz.prog 13 #[.pointer (some ⟨w.heap.size,2,none⟩)] W fun e W'=>e=.returned (.bool true)∧J r W'):
  Calls Tryz.prog 11 #[.slice (some ⟨g,0,none⟩) os.length cap,.int .i64 lo,.int .i64 hi] w fun e w'=>e=.returned (.bool true)∧Below B w w':=by
 unfold Xeh at h0;have H0:=hide h0;have HJ:=hide hJ;have HSK:=hide hskip;have HST:=hide hstep;have HLK:=hide hlook;have HOP:=hide hops;clear h0 hJ hskip hstep hlook hops;go_enter Tryz.func11,Tryz.ntmps11
 go_wp2
 go_loopg [8] os.length (fun gg i wr=>∃r:Nat,r+gg=os.length∧i=.int .i64 r∧J r wr)
 case atStart=>exact⟨0,by omega,rfl,Xa H0⟩
 case round=>
  obtain⟨r,hrk,rfl,hj⟩:=hrel;clear H0;by_cases hr:r<os.length
  ·have hri:(r:Int)<(os.length:Int):=by omega
   have hr2:(r:Int)<144115188075855872:=by omega
   obtain⟨o,ho⟩:∃o,os[r]?=some o:=⟨os[r],List.getElem?_eq_getElem hr⟩;have hat:=(Xa HOP).below (Xa HJ r wr hj) hg;have c0:wr.cell? ⟨g,r*18,none⟩=some (.int .i64 o.kind):=hat.op ho 0 (by omega) rfl;by_cases hin:lo≤o.kind∧o.kind≤hi
   ·have HRG:=hide (hat.range ho);have hinfo:=Xab;have ks:=Xa HST r wr o ho hin.1 hin.2 hj;unfold opV at ks;unfold YP at HRG;have i1:¬o.kind<lo:=by omega
    have i2:¬hi<o.kind:=by omega
    have KS:=hide ks;clear ks hat hj;go_wp2_with (first|(refine wpList_load_mid rfl 34 _ rfl g (r*18) rfl [.int .i64 o.kind,.int .i64 o.a,.int .i64 o.b,.int .i64 o.d,.string o.s,o.lv,.int .i64 o.f.a,.int .i64 o.f.k,.bool o.f.p,.int .i64 o.f.ns,.int .i64 o.f.nr,.slice o.fq o.f.info.length o.fc,.int .i64 o.c0,.int .i64 o.c1,.int .i64 o.c2,.int .i64 o.c3,.int .i64 o.c4,.int .i64 o.c5] _ (Xa HRG) Tryz.underlying34 rfl hinfo ?_)|fail)
    refine(Xa KS).mono ?_;rintro e w1 ⟨rfl,j1⟩;clear KS c0 HRG;have KL:=hide (Xa HLK (r+1) w1 j1);clear j1;go_wp2_with fail
    refine(Xa KL).mono ?_;rintro e w2 ⟨rfl,j2⟩;have HR:=hide j2;clear KL j2;go_wp2
    go_roundg (gk-1)
    case measure=>omega
    case rel=>exact⟨r+1,by omega,by go_num,Xa HR⟩
   ·have HR:=hide (Xa HSK r wr hj);clear hat hj;by_cases i1:o.kind<lo
    ·go_wp2
     go_roundg (gk-1)
     case measure=>omega
     case rel=>exact⟨r+1,by omega,by go_num,Xa HR⟩
    ·have i2:hi<o.kind:=by omega
     go_wp2
     go_roundg (gk-1)
     case measure=>omega
     case rel=>exact⟨r+1,by omega,by go_num,Xa HR⟩
  ·have hri:¬(r:Int)<(os.length:Int):=by omega
   have HE:=hide (Xa HJ r wr hj);clear hj;go_wp2
   go_ret
   exact⟨rfl,Xa HE⟩
theorem step_plain {wb:Nat}{o:OpV}{w:World}{Q:World→Prop}(hk:1≤o.kind∧o.kind≤3)(hlv:∃lp ln lc,o.lv=.slice lp ln lc)
  (HF:Hid (∀ V,Below w.heap.size w V→Calls Tryz.prog 14 #[.pointer (some ⟨wb,0,none⟩),opV o] V fun e w'=>e=.returned (.bool true)∧Q w')):
  Calls Tryz.prog 12 #[.pointer (some ⟨wb,0,none⟩),opV o] w fun e w'=>e=.returned (.bool true)∧Q w':=by
 obtain⟨lp,ln,lc,hlv⟩:=hlv;obtain⟨kind,a,b,d,s,lv,⟨fa,fk,fp,fns,fnr,info⟩,fq,fc,x0,x1,x2,x3,x4,x5⟩:=o;simp only at hlv hk;subst hlv;have k1:(1:Int)≤kind:=hk.1;have k2:kind≤3:=hk.2;obtain⟨W0,hW0⟩:∃W0,w.alloc (.cells #[.int .i64 kind,.int .i64 a,.int .i64 b,.int .i64 d,.string s,.slice lp ln lc,.int .i64 fa,.int .i64 fk,.bool fp,.int .i64 fns,.int .i64 fnr,.slice fq info.length fc,.int .i64 x0,.int .i64 x1,.int .i64 x2,.int .i64 x3,.int .i64 x4,.int .i64 x5] 34)=W0:=⟨_,rfl⟩;have hbx:Below w.heap.size w W0:=by rw[← hW0];exact(Below.refl _ w).alloc (Nat.le_refl _) _
 have hx0:W0.heap[w.heap.size]?=some (.cells #[.int .i64 kind,.int .i64 a,.int .i64 b,.int .i64 d,.string s,.slice lp ln lc,.int .i64 fa,.int .i64 fk,.bool fp,.int .i64 fns,.int .i64 fnr,.slice fq info.length fc,.int .i64 x0,.int .i64 x1,.int .i64 x2,.int .i64 x3,.int .i64 x4,.int .i64 x5] 34):=by rw[← hW0];exact Xg w _
 have y0:W0.cell? ⟨w.heap.size,0,none⟩=some (.int .i64 kind):=by rw[Lib.cell_of_heap hx0];rfl
 have HRG:Hid (W0.rangeAt w.heap.size 0 [.int .i64 kind,.int .i64 a,.int .i64 b,.int .i64 d,.string s,.slice lp ln lc,.int .i64 fa,.int .i64 fk,.bool fp,.int .i64 fns,.int .i64 fnr,.slice fq info.length fc,.int .i64 x0,.int .i64 x1,.int .i64 x2,.int .i64 x3,.int .i64 x4,.int .i64 x5]):=fun j u hj=>by rw[Nat.zero_add,Lib.cell_of_heap hx0];simpa using hj
 have hinfo:=Xab;unfold opV at HF⊢;simp only at HF⊢;have KF:=hide (Xa HF W0 hbx);clear HF hx0 hbx;go_enter Tryz.func12,Tryz.ntmps12
 generalize hnB:w.heap.size=nB at*;go_wp2_with (first|(refine wpList_load_mid rfl 34 _ rfl nB 0 rfl [.int .i64 kind,.int .i64 a,.int .i64 b,.int .i64 d,.string s,.slice lp ln lc,.int .i64 fa,.int .i64 fk,.bool fp,.int .i64 fns,.int .i64 fnr,.slice fq info.length fc,.int .i64 x0,.int .i64 x1,.int .i64 x2,.int .i64 x3,.int .i64 x4,.int .i64 x5] _ (Xa HRG) Tryz.underlying34 rfl hinfo ?_)|fail)
 refine(Xa KF).mono ?_;rintro e W1 ⟨rfl,h1⟩;have HR:=hide h1;clear h1 KF y0 HRG;go_wp2
 go_ret
 exact⟨rfl,Xa HR⟩
theorem Xb6 {wb:Nat}{o:OpV}{w:World}{Q:World→Prop}(hk:o.kind=10)(hlv:∃lp ln lc,o.lv=.slice lp ln lc)
  (HF:Hid (∀ V,Below w.heap.size w V→Calls Tryz.prog 17 #[.pointer (some ⟨wb,0,none⟩),opV o] V fun e w'=>e=.returned (.bool true)∧Q w')):
  Calls Tryz.prog 12 #[.pointer (some ⟨wb,0,none⟩),opV o] w fun e w'=>e=.returned (.bool true)∧Q w':=by
 obtain⟨lp,ln,lc,hlv⟩:=hlv;obtain⟨kind,a,b,d,s,lv,⟨fa,fk,fp,fns,fnr,info⟩,fq,fc,x0,x1,x2,x3,x4,x5⟩:=o;simp only at hlv hk;subst hlv;subst hk;obtain⟨W0,hW0⟩:∃W0,w.alloc (.cells #[.int .i64 10,.int .i64 a,.int .i64 b,.int .i64 d,.string s,.slice lp ln lc,.int .i64 fa,.int .i64 fk,.bool fp,.int .i64 fns,.int .i64 fnr,.slice fq info.length fc,.int .i64 x0,.int .i64 x1,.int .i64 x2,.int .i64 x3,.int .i64 x4,.int .i64 x5] 34)=W0:=⟨_,rfl⟩;have hbx:Below w.heap.size w W0:=by rw[← hW0];exact(Below.refl _ w).alloc (Nat.le_refl _) _
 have hx0:W0.heap[w.heap.size]?=some (.cells #[.int .i64 10,.int .i64 a,.int .i64 b,.int .i64 d,.string s,.slice lp ln lc,.int .i64 fa,.int .i64 fk,.bool fp,.int .i64 fns,.int .i64 fnr,.slice fq info.length fc,.int .i64 x0,.int .i64 x1,.int .i64 x2,.int .i64 x3,.int .i64 x4,.int .i64 x5] 34):=by rw[← hW0];exact Xg w _
 have y0:W0.cell? ⟨w.heap.size,0,none⟩=some (.int .i64 10):=by rw[Lib.cell_of_heap hx0];rfl
 have HRG:Hid (W0.rangeAt w.heap.size 0 [.int .i64 10,.int .i64 a,.int .i64 b,.int .i64 d,.string s,.slice lp ln lc,.int .i64 fa,.int .i64 fk,.bool fp,.int .i64 fns,.int .i64 fnr,.slice fq info.length fc,.int .i64 x0,.int .i64 x1,.int .i64 x2,.int .i64 x3,.int .i64 x4,.int .i64 x5]):=fun j u hj=>by rw[Nat.zero_add,Lib.cell_of_heap hx0];simpa using hj
 have hinfo:=Xab;unfold opV at HF⊢;simp only at HF⊢;have KF:=hide (Xa HF W0 hbx);clear HF hx0 hbx;go_enter Tryz.func12,Tryz.ntmps12
 generalize hnB:w.heap.size=nB at*;go_wp2_with (first|(refine wpList_load_mid rfl 34 _ rfl nB 0 rfl [.int .i64 10,.int .i64 a,.int .i64 b,.int .i64 d,.string s,.slice lp ln lc,.int .i64 fa,.int .i64 fk,.bool fp,.int .i64 fns,.int .i64 fnr,.slice fq info.length fc,.int .i64 x0,.int .i64 x1,.int .i64 x2,.int .i64 x3,.int .i64 x4,.int .i64 x5] _ (Xa HRG) Tryz.underlying34 rfl hinfo ?_)|fail)
 refine(Xa KF).mono ?_;rintro e W1 ⟨rfl,h1⟩;have HR:=hide h1;clear h1 KF y0 HRG;go_wp2
 go_ret
 exact⟨rfl,Xa HR⟩
theorem Xb7 {wb:Nat}{o:OpV}{w:World}{Q:World→Prop}(hk:o.kind=11)(hlv:∃lp ln lc,o.lv=.slice lp ln lc)
  (HF:Hid (∀ V,Below w.heap.size w V→Calls Tryz.prog 17 #[.pointer (some ⟨wb,0,none⟩),opV o] V fun e w'=>e=.returned (.bool true)∧Q w')):
  Calls Tryz.prog 12 #[.pointer (some ⟨wb,0,none⟩),opV o] w fun e w'=>e=.returned (.bool true)∧Q w':=by
 obtain⟨lp,ln,lc,hlv⟩:=hlv;obtain⟨kind,a,b,d,s,lv,⟨fa,fk,fp,fns,fnr,info⟩,fq,fc,x0,x1,x2,x3,x4,x5⟩:=o;simp only at hlv hk;subst hlv;subst hk;obtain⟨W0,hW0⟩:∃W0,w.alloc (.cells #[.int .i64 11,.int .i64 a,.int .i64 b,.int .i64 d,.string s,.slice lp ln lc,.int .i64 fa,.int .i64 fk,.bool fp,.int .i64 fns,.int .i64 fnr,.slice fq info.length fc,.int .i64 x0,.int .i64 x1,.int .i64 x2,.int .i64 x3,.int .i64 x4,.int .i64 x5] 34)=W0:=⟨_,rfl⟩;have hbx:Below w.heap.size w W0:=by rw[← hW0];exact(Below.refl _ w).alloc (Nat.le_refl _) _
 have hx0:W0.heap[w.heap.size]?=some (.cells #[.int .i64 11,.int .i64 a,.int .i64 b,.int .i64 d,.string s,.slice lp ln lc,.int .i64 fa,.int .i64 fk,.bool fp,.int .i64 fns,.int .i64 fnr,.slice fq info.length fc,.int .i64 x0,.int .i64 x1,.int .i64 x2,.int .i64 x3,.int .i64 x4,.int .i64 x5] 34):=by rw[← hW0];exact Xg w _
 have y0:W0.cell? ⟨w.heap.size,0,none⟩=some (.int .i64 11):=by rw[Lib.cell_of_heap hx0];rfl
 have HRG:Hid (W0.rangeAt w.heap.size 0 [.int .i64 11,.int .i64 a,.int .i64 b,.int .i64 d,.string s,.slice lp ln lc,.int .i64 fa,.int .i64 fk,.bool fp,.int .i64 fns,.int .i64 fnr,.slice fq info.length fc,.int .i64 x0,.int .i64 x1,.int .i64 x2,.int .i64 x3,.int .i64 x4,.int .i64 x5]):=fun j u hj=>by rw[Nat.zero_add,Lib.cell_of_heap hx0];simpa using hj
 have hinfo:=Xab;unfold opV at HF⊢;simp only at HF⊢;have KF:=hide (Xa HF W0 hbx);clear HF hx0 hbx;go_enter Tryz.func12,Tryz.ntmps12
 generalize hnB:w.heap.size=nB at*;go_wp2_with (first|(refine wpList_load_mid rfl 34 _ rfl nB 0 rfl [.int .i64 11,.int .i64 a,.int .i64 b,.int .i64 d,.string s,.slice lp ln lc,.int .i64 fa,.int .i64 fk,.bool fp,.int .i64 fns,.int .i64 fnr,.slice fq info.length fc,.int .i64 x0,.int .i64 x1,.int .i64 x2,.int .i64 x3,.int .i64 x4,.int .i64 x5] _ (Xa HRG) Tryz.underlying34 rfl hinfo ?_)|fail)
 refine(Xa KF).mono ?_;rintro e W1 ⟨rfl,h1⟩;have HR:=hide h1;clear h1 KF y0 HRG;go_wp2
 go_ret
 exact⟨rfl,Xa HR⟩
end Go.Proofs.YtkalonhalhdlaaaGreatDoor
namespace Go.Proofs.YtkalonhalhdlaaaGreatDoor
open Go.ChangeShapes Go.WideShapes Go.ChangeAt Go.RowKit
theorem Qr:∀os:List OpV,(X6 os).length=os.length*18:=by
 intro os;induction os with
 |nil=>rfl
 |cons p ps ih=>
  have e:X6 (p::ps)=YP p++X6 ps:=rfl;rw[e,List.length_append,ih,Xal,List.length_cons];omega
def I64 (x:Int):Prop:= -9223372036854775808≤x∧x≤9223372036854775807
theorem Jw {H:Type}(d:DataW H):1≤Rows.uptoBulk d:=by
 cases d with
 |lit l=>cases l <;> simp[Rows.uptoBulk]
 |nil=>simp[Rows.uptoBulk]
 |ptr d=>simp[Rows.uptoBulk]
 |slice a b=>simp[Rows.uptoBulk]
 |agg l=>simp[Rows.uptoBulk]
 |iface t d=>simp[Rows.uptoBulk]
 |map e=>simp[Rows.uptoBulk]
 |held h=>simp[Rows.uptoBulk]
theorem Xba {H:Type}{d:DataW H}:∀ {l:List (DataW H)},d∈l→Rows.uptoBulk d≤Rows.uptoBulkAll l:=by
 intro l;induction l with
 |nil=>intro h;simp at h
 |cons x r ih=>
  intro h;unfold Rows.uptoBulkAll;rcases List.mem_cons.1 h with rfl|h
  ·omega
  ·have:=ih h;omega
theorem QJ {H:Type}:∀(l:List (DataW H)),l.length≤Rows.uptoBulkAll l:=by
 intro l;induction l with
 |nil=>simp
 |cons x r ih=>
  unfold Rows.uptoBulkAll;have:=Jw x;simp only[List.length_cons];omega
def Xej (w:World)(N:Nat)(v:Value):Prop:=v=.slice none 0 0∨∃(a:Addr) (len cap:Nat),v=.slice (some a) len cap∧len≤cap∧cap≤maxLen∧len≤N∧(len=0∨(a.spot=none∧a.block<w.heap.size))∧∀i,i<len→∃s:ByteArray,w.cell? ⟨a.block,a.off+i,none⟩=some (.string s)∧s.size≤N
structure J6 (w:World)(N:Nat)(o:OpV):Prop where
 nums:I64 o.kind∧I64 o.a∧I64 o.b∧I64 o.d∧I64 o.f.a∧I64 o.f.k∧I64 o.f.ns∧I64 o.f.nr∧I64 o.c0∧I64 o.c1∧I64 o.c2∧I64 o.c3∧I64 o.c4∧I64 o.c5
 s:o.s.size≤N
 lv:Xej w N o.lv
 src:Qn w o.fq o.f.info
 info:o.f.info.length≤N
 fc:o.f.info.length≤o.fc∧o.fc≤maxLen
theorem XfV {α:Type}{l:List α}(h:l.length=6):∃a b c d e f,l=[a,b,c,d,e,f]:=by
 match l,h with
 | [a,b,c,d,e,f],_=>exact⟨a,b,c,d,e,f,rfl⟩
theorem XnP {α:Type}{l:List α}(h:l.length=8):∃a b c d e f g i,l=[a,b,c,d,e,f,g,i]:=by
 match l,h with
 | [a,b,c,d,e,f,g,i],_=>exact⟨a,b,c,d,e,f,g,i,rfl⟩
theorem XoP {α:Type}{l:List α}(h:l.length=18):∃a0 a1 a2 a3 a4 a5 a6 a7 a8 a9 a10 a11 a12 a13 a14 a15 a16 a17,l=[a0,a1,a2,a3,a4,a5,a6,a7,a8,a9,a10,a11,a12,a13,a14,a15,a16,a17]:=by
 match l,h with
 | [a0,a1,a2,a3,a4,a5,a6,a7,a8,a9,a10,a11,a12,a13,a14,a15,a16,a17],_=>exact⟨a0,a1,a2,a3,a4,a5,a6,a7,a8,a9,a10,a11,a12,a13,a14,a15,a16,a17,rfl⟩
theorem Xel:Tryz.prog.cellsOf 3=1:=by kernel_rfl
theorem Xo6:Tryz.prog.cellsOf 4=1:=by kernel_rfl
theorem cStr:Tryz.prog.cellsOf 9=1:=by kernel_rfl
theorem cU8:Tryz.prog.cellsOf 5=1:=by kernel_rfl
theorem XoE:Tryz.prog.cellsOf 28=1:=by kernel_rfl
theorem XoF:Tryz.prog.cellsOf 27=1:=by kernel_rfl
theorem XkD:Tryz.prog.cellsOf 30=6:=by kernel_rfl
theorem XiG:Tryz.prog.cellsOf 32=6:=by kernel_rfl
theorem cOp:Tryz.prog.cellsOf 34=18:=by kernel_rfl
section
variable {H:Type}{enc:TypeId×Value→H}{w:World}{base:Nat}{sp:Nat→Bool}{held:Bool}
theorem Zl {fuel:Nat}{c:Value}{x:DataW H×List MemPlace}(h:DataW.trod enc Tryz.prog w base sp held fuel 3 [c]=some x):∃n,c=.int .i64 n∧I64 n:=by
 obtain⟨k,e1,_,e3⟩:=DataW.trod_int Tryz.underlying3 h;simp at e1;exact⟨k,e1,bounds_i64 e3⟩
theorem Xlk {fuel:Nat}{c:Value}{x:DataW H×List MemPlace}(h:DataW.trod enc Tryz.prog w base sp held fuel 28 [c]=some x):∃q l fc,c=.slice q (List.length l) fc∧Qn w q l∧l.length≤Rows.uptoBulk x.1∧l.length≤fc∧fc≤maxLen:=by
 rcases open_ints Tryz.underlying28 Tryz.underlying5 cU8 h with⟨hcs,rfl⟩|⟨a,len,cap,zs,hcs,_,hl,hm,hz,rfl,hcell,hwf⟩
 ·simp at hcs;exact⟨none,[],0,hcs,.inl ⟨rfl,rfl⟩,by simp,by simp,by simp[maxLen]⟩
 ·simp at hcs;subst hcs;have hz':len≤zs.length:=by rw[hz];split <;> omega
  have hll:((zs.take len).map (fun n=>UInt8.ofNat n.toNat)).length=len:=by rw[List.length_map,List.length_take];omega
  refine⟨some a,(zs.take len).map (fun n=>UInt8.ofNat n.toNat),cap,by rw[hll],?_,?_,by omega,hm⟩
  ·by_cases h0:len=0
   ·have e0:(zs.take len).map (fun n=>UInt8.ofNat n.toNat)=[]:=List.length_eq_zero_iff.1 (by omega);rw[e0];exact .inr ⟨a,rfl,fun j u hj=>by simp[Lib.byteCells]at hj⟩
   ·refine XU.e (.inr ?_);obtain⟨b,off,spot⟩:=a;have hc:=hcell 0 (by omega);have hspot:spot=none:=by simpa[Addr.add]using World.cell?_spot hc
    subst hspot;rw[add_plain]at hc;refine⟨b,off,rfl,block_lt_of_cell hc,fun i hi=> ?_⟩;have hci:=hcell i (by omega);rw[add_plain]at hci;rw[hci];have hiz:i<zs.length:=by omega
    have hw:=hwf (zs.getD i 0) (by rw[List.getD_eq_getElem?_getD,List.getElem?_eq_getElem hiz];exact List.getElem_mem hiz);have hb:=bounds_u8 hw;have e1:zs.getD i 0=zs[i]:=by rw[List.getD_eq_getElem?_getD,List.getElem?_eq_getElem hiz];rfl
    have e2:((zs.take len).map (fun n=>UInt8.ofNat n.toNat)).getD i 0=UInt8.ofNat (zs[i]).toNat:=by
     rw[List.getD_eq_getElem?_getD,List.getElem?_map,List.getElem?_take_of_lt (by omega),List.getElem?_eq_getElem hiz];rfl
    rw[e1]at hb⊢;rw[e2];have e3:(UInt8.ofNat (zs[i]).toNat).toNat=(zs[i]).toNat:=by rw[UInt8.toNat_ofNat'];omega
    rw[e3];have e4:((zs[i]).toNat:Int)=zs[i]:=by omega
    rw[e4]
  ·show _≤Rows.uptoBulkAll _+Rows.uptoBulkAll _+1
   have:=QJ (lits (H:=H) .u8 (zs.take len));have e:(lits (H:=H) .u8 (zs.take len)).length=len:=by simp[lits,List.length_take];omega
   omega
theorem XjE {fuel:Nat}{cs:List Value}{x:DataW H×List MemPlace}(h:DataW.trod enc Tryz.prog w base sp held fuel 30 cs=some x):∃(f:Fr) (q:Option Addr) (fc:Nat),cs=[.int .i64 f.a,.int .i64 f.k,.bool f.p,.int .i64 f.ns,.int .i64 f.nr,.slice q f.info.length fc]∧I64 f.a∧I64 f.k∧I64 f.ns∧I64 f.nr∧Qn w q f.info∧f.info.length≤Rows.uptoBulk x.1∧f.info.length≤fc∧fc≤maxLen:=by
 obtain⟨xs,n,_,hx,hl,hlen,hf⟩:=DataW.trod_struct Tryz.underlying30 h;rw[XkD]at hl;have hx6:xs.length=6:=hlen;obtain⟨c0,c1,c2,c3,c4,c5,rfl⟩:=XfV hl;obtain⟨x0,x1,x2,x3,x4,x5,rfl⟩:=XfV hx6;have h0:DataW.trod enc Tryz.prog w base sp held n 3 (([c0,c1,c2,c3,c4,c5].drop 0).take (Tryz.prog.cellsOf 3))=some x0:=hf 0 _ rfl;have h1:DataW.trod enc Tryz.prog w base sp held n 3 (([c0,c1,c2,c3,c4,c5].drop 1).take (Tryz.prog.cellsOf 3))=some x1:=hf 1 _ rfl;have h2:DataW.trod enc Tryz.prog w base sp held n 4 (([c0,c1,c2,c3,c4,c5].drop 2).take (Tryz.prog.cellsOf 4))=some x2:=hf 2 _ rfl;have h3:DataW.trod enc Tryz.prog w base sp held n 3 (([c0,c1,c2,c3,c4,c5].drop 3).take (Tryz.prog.cellsOf 3))=some x3:=hf 3 _ rfl;have h4:DataW.trod enc Tryz.prog w base sp held n 3 (([c0,c1,c2,c3,c4,c5].drop 4).take (Tryz.prog.cellsOf 3))=some x4:=hf 4 _ rfl;have h5:DataW.trod enc Tryz.prog w base sp held n 28 (([c0,c1,c2,c3,c4,c5].drop 5).take (Tryz.prog.cellsOf 28))=some x5:=hf 5 _ rfl;rw[Xel]at h0 h1 h3 h4;rw[Xo6]at h2;rw[XoE]at h5;obtain⟨n0,rfl,g0⟩:=Zl h0;obtain⟨n1,rfl,g1⟩:=Zl h1;obtain⟨b2,e2,_⟩:=DataW.trod_bool Tryz.underlying4 h2;simp at e2;subst e2;obtain⟨n3,rfl,g3⟩:=Zl h3;obtain⟨n4,rfl,g4⟩:=Zl h4;obtain⟨q,l,fc,rfl,s1,s2,s3,s4⟩:=Xlk h5;refine⟨⟨n0,n1,b2,n3,n4,l⟩,q,fc,rfl,g0,g1,g3,g4,s1,?_,s3,s4⟩;rw[hx];have hp:Rows.uptoBulk x5.1≤Rows.uptoBulkAll ([x0,x1,x2,x3,x4,x5].map (·.1)):=Xba (by simp);show l.length≤Rows.uptoBulkAll _+1
 omega
theorem Xh5 {fuel:Nat}{cs:List Value}{x:DataW H×List MemPlace}(h:DataW.trod enc Tryz.prog w base sp held fuel 32 cs=some x):∃a b c d e f,cs=[.int .i64 a,.int .i64 b,.int .i64 c,.int .i64 d,.int .i64 e,.int .i64 f]∧I64 a∧I64 b∧I64 c∧I64 d∧I64 e∧I64 f:=by
 obtain⟨xs,n,_,hx,hl,hlen,hf⟩:=DataW.trod_struct Tryz.underlying32 h;rw[XiG]at hl;have hx6:xs.length=6:=hlen;obtain⟨c0,c1,c2,c3,c4,c5,rfl⟩:=XfV hl;obtain⟨x0,x1,x2,x3,x4,x5,rfl⟩:=XfV hx6;have h0:DataW.trod enc Tryz.prog w base sp held n 3 (([c0,c1,c2,c3,c4,c5].drop 0).take (Tryz.prog.cellsOf 3))=some x0:=hf 0 _ rfl;have h1:DataW.trod enc Tryz.prog w base sp held n 3 (([c0,c1,c2,c3,c4,c5].drop 1).take (Tryz.prog.cellsOf 3))=some x1:=hf 1 _ rfl;have h2:DataW.trod enc Tryz.prog w base sp held n 3 (([c0,c1,c2,c3,c4,c5].drop 2).take (Tryz.prog.cellsOf 3))=some x2:=hf 2 _ rfl;have h3:DataW.trod enc Tryz.prog w base sp held n 3 (([c0,c1,c2,c3,c4,c5].drop 3).take (Tryz.prog.cellsOf 3))=some x3:=hf 3 _ rfl;have h4:DataW.trod enc Tryz.prog w base sp held n 3 (([c0,c1,c2,c3,c4,c5].drop 4).take (Tryz.prog.cellsOf 3))=some x4:=hf 4 _ rfl;have h5:DataW.trod enc Tryz.prog w base sp held n 3 (([c0,c1,c2,c3,c4,c5].drop 5).take (Tryz.prog.cellsOf 3))=some x5:=hf 5 _ rfl;rw[Xel]at h0 h1 h2 h3 h4 h5;obtain⟨n0,rfl,g0⟩:=Zl h0;obtain⟨n1,rfl,g1⟩:=Zl h1;obtain⟨n2,rfl,g2⟩:=Zl h2;obtain⟨n3,rfl,g3⟩:=Zl h3;obtain⟨n4,rfl,g4⟩:=Zl h4;obtain⟨n5,rfl,g5⟩:=Zl h5;exact⟨n0,n1,n2,n3,n4,n5,rfl,g0,g1,g2,g3,g4,g5⟩
theorem Xoj {fuel:Nat}{c:Value}{x:DataW H×List MemPlace}(h:DataW.trod enc Tryz.prog w base sp held fuel 27 [c]=some x):Xej w (Rows.uptoBulk x.1) c:=by
 rcases open_strings Tryz.underlying27 Tryz.underlying9 cStr h with⟨hcs,rfl⟩|⟨a,len,cap,ss,hcs,_,hl,hm,hz,rfl,hcell,hsz⟩
 ·simp at hcs;exact .inl hcs
 ·simp at hcs;subst hcs;have hz':len≤ss.length:=by rw[hz];split <;> omega
  have hbulk:∀s∈ss.take len,s.size+1≤Rows.uptoBulkAll (strs (H:=H) (ss.take len)):=by
   intro s hs;have hp:Rows.uptoBulk (DataW.lit (H:=H) (.string s.data.toList))≤Rows.uptoBulkAll (strs (H:=H) (ss.take len)):=Xba (List.mem_map_of_mem (f:=fun s:ByteArray=>DataW.lit (H:=H) (.string s.data.toList)) hs);have e:Rows.uptoBulk (DataW.lit (H:=H) (.string s.data.toList))=s.data.toList.length+1:=rfl;rw[e,Array.length_toList]at hp;exact hp
  have hlenB:len≤Rows.uptoBulkAll (strs (H:=H) (ss.take len)):=by
   have:=QJ (strs (H:=H) (ss.take len));have e:(strs (H:=H) (ss.take len)).length=len:=by simp[strs,List.length_take];omega
   omega
  right
  refine⟨a,len,cap,rfl,hl,hm,?_,?_,fun i hi=> ?_⟩
  ·show len≤Rows.uptoBulkAll _+Rows.uptoBulkAll _+1
   omega
  ·by_cases h0:len=0
   ·exact .inl h0
   ·right
    have hc:=hcell 0 (by omega);obtain⟨b,off,spot⟩:=a;have hspot:spot=none:=by simpa[Addr.add]using World.cell?_spot hc
    subst hspot;rw[add_plain]at hc;exact⟨rfl,block_lt_of_cell hc⟩
  ·have hc:=hcell i (by omega);have hiz:i<ss.length:=by omega
   have es:ss.getD i ByteArray.empty=ss[i]:=by rw[List.getD_eq_getElem?_getD,List.getElem?_eq_getElem hiz];rfl
   have hc0:=hcell 0 (by omega);obtain⟨b,off,spot⟩:=a;have hspot:spot=none:=by simpa[Addr.add]using World.cell?_spot hc0
   subst hspot;rw[add_plain,es]at hc;refine⟨ss[i],hc,?_⟩;have hm':ss[i]∈ss.take len:=List.mem_take_iff_getElem.2 ⟨i,by omega,rfl⟩;have:=hbulk _ hm';show _≤Rows.uptoBulkAll _+Rows.uptoBulkAll _+1
   omega
theorem XiM {fuel:Nat}{cs:List Value}{x:DataW H×List MemPlace}(h:DataW.trod enc Tryz.prog w base sp held fuel 34 cs=some x):∃o,cs=YP o∧J6 w (Rows.uptoBulk x.1) o:=by
 obtain⟨xs,n,_,hx,hl,hlen,hf⟩:=DataW.trod_struct Tryz.underlying34 h;rw[cOp]at hl;have hx8:xs.length=8:=hlen;obtain⟨c0,c1,c2,c3,c4,c5,c6,c7,c8,c9,c10,c11,c12,c13,c14,c15,c16,c17,rfl⟩:=XoP hl;obtain⟨x0,x1,x2,x3,x4,x5,x6,x7,rfl⟩:=XnP hx8
 have hbk:∀y,y∈ [x0,x1,x2,x3,x4,x5,x6,x7]→Rows.uptoBulk y.1≤Rows.uptoBulk x.1:=by
  intro y hy;rw[hx];have hp:Rows.uptoBulk y.1≤Rows.uptoBulkAll ([x0,x1,x2,x3,x4,x5,x6,x7].map (·.1)):=Xba (List.mem_map_of_mem hy);show _≤Rows.uptoBulkAll _+1
  omega
 have h0:DataW.trod enc Tryz.prog w base sp held n 3 [c0]=some x0:=by have:=hf 0 _ rfl;simpa[Xel]using this
 have h1:DataW.trod enc Tryz.prog w base sp held n 3 [c1]=some x1:=by have:=hf 1 _ rfl;simpa[Xel]using this
 have h2:DataW.trod enc Tryz.prog w base sp held n 3 [c2]=some x2:=by have:=hf 2 _ rfl;simpa[Xel]using this
 have h3:DataW.trod enc Tryz.prog w base sp held n 3 [c3]=some x3:=by have:=hf 3 _ rfl;simpa[Xel]using this
 have h4:DataW.trod enc Tryz.prog w base sp held n 9 [c4]=some x4:=by have:=hf 4 _ rfl;simpa[cStr]using this
 have h5:DataW.trod enc Tryz.prog w base sp held n 27 [c5]=some x5:=by have:=hf 5 _ rfl;simpa[XoF]using this
 have h6:DataW.trod enc Tryz.prog w base sp held n 30 [c6,c7,c8,c9,c10,c11]=some x6:=by have:=hf 6 _ rfl;simpa[XkD]using this
 have h7:DataW.trod enc Tryz.prog w base sp held n 32 [c12,c13,c14,c15,c16,c17]=some x7:=by have:=hf 7 _ rfl;simpa[XiG]using this
 obtain⟨n0,rfl,g0⟩:=Zl h0;obtain⟨n1,rfl,g1⟩:=Zl h1;obtain⟨n2,rfl,g2⟩:=Zl h2;obtain⟨n3,rfl,g3⟩:=Zl h3;obtain⟨s4,e4,f4,_⟩:=DataW.trod_string Tryz.underlying9 h4;simp at e4;subst e4;have l5:=Xoj h5;obtain⟨f,q,fc,e6,y1,y2,y3,y4,y5,y6,y7,y8⟩:=XjE h6;obtain⟨k0,k1,k2,k3,k4,k5,e7,z0,z1,z2,z3,z4,z5⟩:=Xh5 h7;simp at e6 e7;obtain⟨rfl,rfl,rfl,rfl,rfl,rfl⟩:=e6;obtain⟨rfl,rfl,rfl,rfl,rfl,rfl⟩:=e7;have b4:=hbk x4 (by simp);have b5:=hbk x5 (by simp);have b6:=hbk x6 (by simp);refine⟨⟨n0,n1,n2,n3,s4,c5,f,q,fc,k0,k1,k2,k3,k4,k5⟩,rfl,⟨⟨g0,g1,g2,g3,y1,y2,y3,y4,z0,z1,z2,z3,z4,z5⟩,?_,?_,y5,Nat.le_trans y6 b6,y7,y8⟩⟩
 ·rw[f4]at b4
  have:s4.size+1≤Rows.uptoBulk x.1:=by
   have e:Rows.uptoBulk (DataW.lit (H:=H) (.string s4.data.toList))=s4.data.toList.length+1:=rfl;rw[e,Array.length_toList]at b4;exact b4
  show s4.size≤_
  omega
 ·show Xej w _ c5
  rcases l5 with l5|⟨a,len,cap,q1,q2,q3,q4,q5,q6⟩
  ·exact .inl l5
  ·exact .inr ⟨a,len,cap,q1,q2,q3,Nat.le_trans q4 b5,q5,fun i hi=>by obtain⟨t,t1,t2⟩:=q6 i hi;exact⟨t,t1,Nat.le_trans t2 b5⟩⟩
end
theorem Xf1 {H:Type}:∀(l:List (DataW H)),(l.map Rows.uptoBulk).sum≤Rows.uptoBulkAll l:=by
 intro l;induction l with
 |nil=>simp
 |cons x r ih=>
  unfold Rows.uptoBulkAll;simp only[List.map_cons,List.sum_cons];omega
section
variable {H:Type}{enc:TypeId×Value→H}{w:World}{base:Nat}{sp:Nat→Bool}{held:Bool}
theorem Xll {fuel:Nat}{a:Option Addr}{len cap:Nat}{x:DataW H×List MemPlace}(h:DataW.trod enc Tryz.prog w base sp held fuel 22 [.slice a len cap]=some x):
  ∃os:List OpV,os.length=len∧(a=none→len=0∧cap=0)∧len≤Rows.uptoBulk x.1∧(len=0∨∃b off,a=some ⟨b,off,none⟩∧b<w.heap.size∧∀j v,(X6 os)[j]?=some v→w.cell? ⟨b,off+j,none⟩=some v)∧∃ns:List Nat,ns.length=len∧ns.sum≤Rows.uptoBulk x.1∧∀(i:Nat) (o:OpV) (n:Nat),os[i]?=some o→ns[i]?=some n→J6 w n o:=by
 rcases DataW.trod_slice Tryz.underlying22 h with⟨hcs,rfl⟩|⟨a0,len0,cap0,elems,rest,n,_,hcs,hx,_,_,_,hlen,hel,_⟩
 ·simp at hcs;obtain⟨rfl,rfl,rfl⟩:=hcs;exact⟨[],rfl,fun _=>⟨rfl,rfl⟩,Nat.zero_le _,.inl rfl,[],rfl,Nat.zero_le _,fun i o n ho=>by simp at ho⟩
 ·simp at hcs;obtain⟨rfl,rfl,rfl⟩:=hcs
  have hlb:len≤Rows.uptoBulk x.1:=by
   rw[hx];have:=QJ (elems.map (·.1));rw[List.length_map]at this;show _≤Rows.uptoBulkAll _+Rows.uptoBulkAll _+1
   omega
  have hex:∀i,∃o:OpV,i<len→(∀ y,elems[i]?=some y→J6 w (Rows.uptoBulk y.1) o)∧∀k,k<18→w.cell? ((a0.add (i*18)).add k)=(YP o)[k]?:=by
   intro i;by_cases hi:i<len
   ·have hE:=hel i hi;rw[cOp]at hE;obtain⟨y,hy⟩:∃y,elems[i]?=some y:=⟨_,List.getElem?_eq_getElem (by omega)⟩;rw[hy]at hE;obtain⟨cs,h1,h2⟩:=Option.bind_eq_some_iff.1 hE;obtain⟨_,hl2,hc⟩:=World.cells?_some h1;obtain⟨o,rfl,ho⟩:=XiM h2;refine⟨o,fun _=>⟨fun y2 hy2=> ?_,hc⟩⟩;rw[hy]at hy2;cases hy2
    exact ho
   ·exact ⟨opZ,fun h=>absurd h hi⟩
  obtain⟨f,hf⟩:=Classical.axiomOfChoice hex;refine⟨(List.range len).map f,by simp,fun e=>by simp at e,hlb,?_,elems.map (fun y=>Rows.uptoBulk y.1),by simp[hlen],?_,fun i o n ho hn=> ?_⟩
  ·by_cases h0:len=0
   ·exact .inl h0
   ·right
    obtain⟨b,off,spot⟩:=a0;have hc0:=(hf 0 (by omega)).2 0 (by omega)
    have hspot:spot=none:=by
     have h00:(YP (f 0))[0]?=some (.int .i64 (f 0).kind):=rfl;rw[h00]at hc0;simpa[Addr.add]using World.cell?_spot hc0
    subst hspot
    have hall:∀i k,i<len→k<18→w.cell? ⟨b,off+i*18+k,none⟩=(YP (f i))[k]?:=by
     intro i k hi hk;have:=(hf i hi).2 k hk;rw[add_plain,add_plain]at this;exact this
    have hb0:=hall 0 0 (by omega) (by omega);have h00:(YP (f 0))[0]?=some (.int .i64 (f 0).kind):=rfl;rw[h00]at hb0;refine⟨b,off,rfl,block_lt_of_cell hb0,fun j v hj=> ?_⟩;have hjl:j<(X6 ((List.range len).map f)).length:=(List.getElem?_eq_some_iff.1 hj).1;have hlen2:(X6 ((List.range len).map f)).length=len*18:=by rw[Qr,List.length_map,List.length_range]
    have hd:j / 18<len:=by omega
    have hk:j%18<18:=Nat.mod_lt _ (by omega)
    have ho:((List.range len).map f)[j / 18]?=some (f (j / 18)):=by
     rw[List.getElem?_map,List.getElem?_range hd];rfl
    have e:=XaW _ _ _ (j%18) ho hk;rw[show j / 18*18+j%18=j by omega,hj]at e;have:=hall (j / 18) (j%18) hd hk;rw[← e,show off+j / 18*18+j%18=off+j by omega]at this;exact this
  ·rw[hx];have:=Xf1 (elems.map (·.1));rw[List.map_map]at this;show(elems.map fun y=>Rows.uptoBulk y.1).sum≤Rows.uptoBulkAll _+Rows.uptoBulkAll _+1
   have e:(elems.map fun y=>Rows.uptoBulk y.1)=elems.map (Rows.uptoBulk ∘ (·.1)):=rfl;rw[e];omega
  ·have hi:i<len:=by
    have:=(List.getElem?_eq_some_iff.1 ho).1;simpa using this
   rw[List.getElem?_map,List.getElem?_range hi]at ho;simp at ho;subst ho;rw[List.getElem?_map]at hn;obtain⟨y,hy,rfl⟩:=Option.map_eq_some_iff.1 hn;exact(hf i hi).1 y hy
end
end Go.Proofs.YtkalonhalhdlaaaGreatDoor
