import Derived.Test.YtkalonhalhdlaaaGreatDoorG26
set_option maxHeartbeats 8000000
set_option maxRecDepth 100000
namespace Go.Proofs.YtkalonhalhdlaaaGreatDoor
open Go.RowKit
section
variable {w:World}{own:Nat→Nat}{i b:Nat}{c:Cfg}{s:St}{cl:Bool}{q cm o ev:Value}{ce oe:List Value}
theorem Ji {fa fk:Int}{fp:Bool}{fns fnr:Int}{info:Msg}{cmd:Bool}(hcmd:(fa==(c.addr:Int))=cmd)(hh:Zf c (⟨fa,fk,fp,fns,fnr,info⟩:Fr)=true)(hk:1≤fk∧fk≤9):((fk=1∨fk=5∨fk=6)∧cmd=true)∨((fk=7∨fk=8∨fk=9)∧cmd=false)∨fk=2∨fk=3∨fk=4:=by
 have hkc:(fk=1∨fk=5∨fk=6)∨(fk=7∨fk=8∨fk=9)∨fk=2∨fk=3∨fk=4:=by omega
 rcases hkc with h1|h1|h1
 ·have e:Zf c (⟨fa,fk,fp,fns,fnr,info⟩:Fr)=(fa==(c.addr:Int)):=by rcases h1 with rfl|rfl|rfl <;> rfl
  exact .inl ⟨h1,by rw[← hcmd,←e];exact hh⟩
 ·have e:Zf c (⟨fa,fk,fp,fns,fnr,info⟩:Fr)=!(fa==(c.addr:Int)):=by rcases h1 with rfl|rfl|rfl <;> rfl
  refine .inr (.inl ⟨h1,?_⟩);rw[← hcmd];rw[e]at hh;simpa using hh
 ·exact .inr (.inr h1)
theorem Xj6 (h:TAt w own i b c s false q cm o ev ce oe)(hst:s.state=0)(p:Option Addr)(cp:Nat)(l:List UInt8)(fa fk:Int)(fp:Bool)(fns:Int)(fnr:Int)(info:Msg)(hsrc:XU w p l)(hll:l.length≤1048576)(hcp:l.length≤cp)(hrd:Xi c.m l=(0,(⟨fa,fk,fp,fns,fnr,info⟩:Fr)))(hk:1≤fk∧fk≤9)(hh:Zf c (⟨fa,fk,fp,fns,fnr,info⟩:Fr)=true)(hl:s.out.length+32≤2199023255552)(hl2:s.events.length≤2199023255552):
  Calls Tryz.prog 94 #[.pointer (some ⟨b,0,none⟩),.slice p l.length cp] w fun e w'=>Yn 0 i b c (Zw c (⟨fa,fk,fp,fns,fnr,info⟩:Fr) s) false own w e w':=by
 have c21:=h.c21;have c0:=h.c0;have hlt:=h.lt;have k1:=YQ c.m p cp l w hsrc hll hcp;rw[hrd]at k1;have K1:=hide k1;obtain⟨cmd,hcmd⟩:∃cmd:Bool,(fa==(c.addr:Int))=cmd:=⟨_,rfl⟩;have hcs:=Ji hcmd hh hk;have H:=hide h;have HHH:=hide hh;have HCS:=hide hcs;clear h hsrc hrd k1 hcs;go_enter Tryz.func94,Tryz.ntmps94
 go_wp2_with fail
 refine(Xa K1).mono ?_;rintro e w1 ⟨q1,cp1,rfl,hown1,_,hb1⟩;have h1:=(Xa H).later hb1;have c5:=h1.c5;have hlt1:=h1.lt;have HOW:=hide hown1;have HB1:=hide hb1;clear K1 h1 hown1 hb1 c21 c0 hh;go_wp2_with fail
 go_quiet (fail)
 have hbA:=(Xa HB1).alloc (Xa HB1).size (.cells #[.int .i64 fa,.int .i64 fk,.bool fp,.int .i64 fns,.int .i64 fnr,.slice q1 info.length cp1] 30);have hbV:Below w.heap.size w ((w1.alloc (.cells #[.int .i64 fa,.int .i64 fk,.bool fp,.int .i64 fns,.int .i64 fnr,.slice q1 info.length cp1] 30)).drewN nq):=below_drewN hbA nq;have hV:=(Xa H).later hbV;have hAV:((w1.alloc (.cells #[.int .i64 fa,.int .i64 fk,.bool fp,.int .i64 fns,.int .i64 fnr,.slice q1 info.length cp1] 30)).drewN nq).heap[w1.heap.size]?=some (.cells #[.int .i64 fa,.int .i64 fk,.bool fp,.int .i64 fns,.int .i64 fnr,.slice q1 info.length cp1] 30 (0,0)):=Xg w1 _;have hvV:((w1.alloc (.cells #[.int .i64 fa,.int .i64 fk,.bool fp,.int .i64 fns,.int .i64 fnr,.slice q1 info.length cp1] 30)).drewN nq).ownsRow 0 5 1 (.slice q1 info.length cp1) info.length (Lib.byteCells info):=Xw (World.ownsRow.alloc (Xa HOW) _) (Nat.zero_le _)
 have hfr:∀k,(Value.slice q1 info.length cp1).ownBlock=some k→own k=0∧k≠0:=fun k hk=>by
  have:=(World.ownsRow.lt (Xa HOW) k hk).1;exact⟨(Xa H).Xp k this,by omega⟩
 have hT:∀k,(Value.slice q1 info.length cp1).ownBlock=some k→w.heap.size≤k:=fun k hk=>(World.ownsRow.lt (Xa HOW) k hk).1
 clear hbA HB1 HOW c5;generalize (w1.alloc (.cells #[.int .i64 fa,.int .i64 fk,.bool fp,.int .i64 fns,.int .i64 fnr,.slice q1 info.length cp1] 30)).drewN nq=V at*;obtain⟨y0,y1,y2,y3,y4,y5⟩:=Xt hAV;have c6:=hV.c6;rw[hst]at c6;have hh:=Xa HHH;have K2:=hide (XmC hV fa fk fp cmd fns fnr info hcmd hh hk q1 cp1 (by omega) (by omega));have HBV:=hide hbV;have HT:=hide hT;clear hV hAV hvV hfr hbV hT H HHH hh hlt1;go_upto_region 7 with fail
 have hgo:((fk=1∨fk=5∨fk=6)∧cmd=true)∨((fk=7∨fk=8∨fk=9)∧cmd=false)∨fk=2∨fk=3∨fk=4:=Xa HCS;clear HCS;rcases hgo with⟨h1,h2⟩|⟨h1,h2⟩|h1
 ·subst h2;rcases h1 with rfl|rfl|rfl
  all_goals
   go_wp2_with fail
   refine(Xa K2).mono ?_;rintro e w5 ⟨rfl,own5,h5,u5⟩;have HR:=hide (And.intro h5 (Upd.of (Xa HBV) u5));clear K2 h5 u5 HBV HT c6 y0 y1 y2 y3 y4 y5;go_wp2
   go_ret
   exact⟨rfl,_,(Xa HR).1,(Xa HR).2⟩
 ·subst h2;rcases h1 with rfl|rfl|rfl
  all_goals
   go_wp2_with fail
   refine(Xa K2).mono ?_;rintro e w5 ⟨rfl,own5,h5,u5⟩;have HR:=hide (And.intro h5 (Upd.of (Xa HBV) u5));clear K2 h5 u5 HBV HT c6 y0 y1 y2 y3 y4 y5;go_wp2
   go_ret
   exact⟨rfl,_,(Xa HR).1,(Xa HR).2⟩
 ·rcases h1 with rfl|rfl|rfl
  all_goals
   go_wp2_with fail
   refine(Xa K2).mono ?_;rintro e w5 ⟨rfl,own5,h5,u5⟩;have HR:=hide (And.intro h5 (Upd.of (Xa HBV) u5));clear K2 h5 u5 HBV HT c6 y0 y1 y2 y3 y4 y5;go_wp2
   go_ret
   exact⟨rfl,_,(Xa HR).1,(Xa HR).2⟩
theorem XfS (h:TAt w own i b c s false q cm o ev ce oe)(hst:s.state=1)(p:Option Addr)(cp:Nat)(l:List UInt8)(fa fk:Int)(fp:Bool)(fns:Int)(fnr:Int)(info:Msg)(hsrc:XU w p l)(hll:l.length≤1048576)(hcp:l.length≤cp)(hrd:Xi c.m l=(0,(⟨fa,fk,fp,fns,fnr,info⟩:Fr)))(hk:1≤fk∧fk≤9)(hh:Zf c (⟨fa,fk,fp,fns,fnr,info⟩:Fr)=true)(hl:s.out.length+32≤2199023255552)(hl2:s.events.length≤2199023255552):
  Calls Tryz.prog 94 #[.pointer (some ⟨b,0,none⟩),.slice p l.length cp] w fun e w'=>Yn 0 i b c (YM c (⟨fa,fk,fp,fns,fnr,info⟩:Fr) s) false own w e w':=by
 have c21:=h.c21;have c0:=h.c0;have hlt:=h.lt;have k1:=YQ c.m p cp l w hsrc hll hcp;rw[hrd]at k1;have K1:=hide k1;obtain⟨cmd,hcmd⟩:∃cmd:Bool,(fa==(c.addr:Int))=cmd:=⟨_,rfl⟩;have hcs:=Ji hcmd hh hk;have H:=hide h;have HHH:=hide hh;have HCS:=hide hcs;clear h hsrc hrd k1 hcs;go_enter Tryz.func94,Tryz.ntmps94
 go_wp2_with fail
 refine(Xa K1).mono ?_;rintro e w1 ⟨q1,cp1,rfl,hown1,_,hb1⟩;have h1:=(Xa H).later hb1;have c5:=h1.c5;have hlt1:=h1.lt;have HOW:=hide hown1;have HB1:=hide hb1;clear K1 h1 hown1 hb1 c21 c0 hh;go_wp2_with fail
 go_quiet (fail)
 have hbA:=(Xa HB1).alloc (Xa HB1).size (.cells #[.int .i64 fa,.int .i64 fk,.bool fp,.int .i64 fns,.int .i64 fnr,.slice q1 info.length cp1] 30);have hbV:Below w.heap.size w ((w1.alloc (.cells #[.int .i64 fa,.int .i64 fk,.bool fp,.int .i64 fns,.int .i64 fnr,.slice q1 info.length cp1] 30)).drewN nq):=below_drewN hbA nq;have hV:=(Xa H).later hbV;have hAV:((w1.alloc (.cells #[.int .i64 fa,.int .i64 fk,.bool fp,.int .i64 fns,.int .i64 fnr,.slice q1 info.length cp1] 30)).drewN nq).heap[w1.heap.size]?=some (.cells #[.int .i64 fa,.int .i64 fk,.bool fp,.int .i64 fns,.int .i64 fnr,.slice q1 info.length cp1] 30 (0,0)):=Xg w1 _;have hvV:((w1.alloc (.cells #[.int .i64 fa,.int .i64 fk,.bool fp,.int .i64 fns,.int .i64 fnr,.slice q1 info.length cp1] 30)).drewN nq).ownsRow 0 5 1 (.slice q1 info.length cp1) info.length (Lib.byteCells info):=Xw (World.ownsRow.alloc (Xa HOW) _) (Nat.zero_le _)
 have hfr:∀k,(Value.slice q1 info.length cp1).ownBlock=some k→own k=0∧k≠0:=fun k hk=>by
  have:=(World.ownsRow.lt (Xa HOW) k hk).1;exact⟨(Xa H).Xp k this,by omega⟩
 have hT:∀k,(Value.slice q1 info.length cp1).ownBlock=some k→w.heap.size≤k:=fun k hk=>(World.ownsRow.lt (Xa HOW) k hk).1
 clear hbA HB1 HOW c5;generalize (w1.alloc (.cells #[.int .i64 fa,.int .i64 fk,.bool fp,.int .i64 fns,.int .i64 fnr,.slice q1 info.length cp1] 30)).drewN nq=V at*;obtain⟨y0,y1,y2,y3,y4,y5⟩:=Xt hAV;have c6:=hV.c6;rw[hst]at c6;have hh:=Xa HHH;have K2:=hide (XhD hV fa fk fp fns fnr info hk q1 cp1 (by omega) (by omega));have HBV:=hide hbV;have HT:=hide hT;clear hV hAV hvV hfr hbV hT H HHH hh hlt1;go_upto_region 7 with fail
 have hgo:((fk=1∨fk=5∨fk=6)∧cmd=true)∨((fk=7∨fk=8∨fk=9)∧cmd=false)∨fk=2∨fk=3∨fk=4:=Xa HCS;clear HCS;rcases hgo with⟨h1,h2⟩|⟨h1,h2⟩|h1
 ·subst h2;rcases h1 with rfl|rfl|rfl
  all_goals
   go_wp2_with fail
   refine(Xa K2).mono ?_;rintro e w5 ⟨rfl,own5,h5,u5⟩;have HR:=hide (And.intro h5 (Upd.of (Xa HBV) u5));clear K2 h5 u5 HBV HT c6 y0 y1 y2 y3 y4 y5;go_wp2
   go_ret
   exact⟨rfl,_,(Xa HR).1,(Xa HR).2⟩
 ·subst h2;rcases h1 with rfl|rfl|rfl
  all_goals
   go_wp2_with fail
   refine(Xa K2).mono ?_;rintro e w5 ⟨rfl,own5,h5,u5⟩;have HR:=hide (And.intro h5 (Upd.of (Xa HBV) u5));clear K2 h5 u5 HBV HT c6 y0 y1 y2 y3 y4 y5;go_wp2
   go_ret
   exact⟨rfl,_,(Xa HR).1,(Xa HR).2⟩
 ·rcases h1 with rfl|rfl|rfl
  all_goals
   go_wp2_with fail
   refine(Xa K2).mono ?_;rintro e w5 ⟨rfl,own5,h5,u5⟩;have HR:=hide (And.intro h5 (Upd.of (Xa HBV) u5));clear K2 h5 u5 HBV HT c6 y0 y1 y2 y3 y4 y5;go_wp2
   go_ret
   exact⟨rfl,_,(Xa HR).1,(Xa HR).2⟩
theorem Xno (h:TAt w own i b c s false q cm o ev ce oe)(hok:s.ok c)(hst:s.state=2)(p:Option Addr)(cp:Nat)(l:List UInt8)(fa fk:Int)(fp:Bool)(fns:Int)(n:Nat)(hn:n<c.m)(info:Msg)(hsrc:XU w p l)(hll:l.length≤1048576)(hcp:l.length≤cp)(hrd:Xi c.m l=(0,(⟨fa,fk,fp,fns,(n:Nat),info⟩:Fr)))(hk:1≤fk∧fk≤9)(hh:Zf c (⟨fa,fk,fp,fns,(n:Nat),info⟩:Fr)=true)(hl:s.out.length+32≤2199023255552)(hl2:s.events.length≤2199023255552):
  Calls Tryz.prog 94 #[.pointer (some ⟨b,0,none⟩),.slice p l.length cp] w fun e w'=>Yn 0 i b c (Zu c (⟨fa,fk,fp,fns,(n:Nat),info⟩:Fr) s) false own w e w':=by
 have c21:=h.c21;have c0:=h.c0;have hlt:=h.lt;have k1:=YQ c.m p cp l w hsrc hll hcp;rw[hrd]at k1;have K1:=hide k1;obtain⟨cmd,hcmd⟩:∃cmd:Bool,(fa==(c.addr:Int))=cmd:=⟨_,rfl⟩;have hcs:=Ji hcmd hh hk;have H:=hide h;have HHH:=hide hh;have HCS:=hide hcs;clear h hsrc hrd k1 hcs;go_enter Tryz.func94,Tryz.ntmps94
 go_wp2_with fail
 refine(Xa K1).mono ?_;rintro e w1 ⟨q1,cp1,rfl,hown1,_,hb1⟩;have h1:=(Xa H).later hb1;have c5:=h1.c5;have hlt1:=h1.lt;have HOW:=hide hown1;have HB1:=hide hb1;clear K1 h1 hown1 hb1 c21 c0 hh;go_wp2_with fail
 go_quiet (fail)
 have hbA:=(Xa HB1).alloc (Xa HB1).size (.cells #[.int .i64 fa,.int .i64 fk,.bool fp,.int .i64 fns,.int .i64 (n:Nat),.slice q1 info.length cp1] 30);have hbV:Below w.heap.size w ((w1.alloc (.cells #[.int .i64 fa,.int .i64 fk,.bool fp,.int .i64 fns,.int .i64 (n:Nat),.slice q1 info.length cp1] 30)).drewN nq):=below_drewN hbA nq;have hV:=(Xa H).later hbV;have hAV:((w1.alloc (.cells #[.int .i64 fa,.int .i64 fk,.bool fp,.int .i64 fns,.int .i64 (n:Nat),.slice q1 info.length cp1] 30)).drewN nq).heap[w1.heap.size]?=some (.cells #[.int .i64 fa,.int .i64 fk,.bool fp,.int .i64 fns,.int .i64 (n:Nat),.slice q1 info.length cp1] 30 (0,0)):=Xg w1 _;have hvV:((w1.alloc (.cells #[.int .i64 fa,.int .i64 fk,.bool fp,.int .i64 fns,.int .i64 (n:Nat),.slice q1 info.length cp1] 30)).drewN nq).ownsRow 0 5 1 (.slice q1 info.length cp1) info.length (Lib.byteCells info):=Xw (World.ownsRow.alloc (Xa HOW) _) (Nat.zero_le _)
 have hfr:∀k,(Value.slice q1 info.length cp1).ownBlock=some k→own k=0∧k≠0:=fun k hk=>by
  have:=(World.ownsRow.lt (Xa HOW) k hk).1;exact⟨(Xa H).Xp k this,by omega⟩
 have hT:∀k,(Value.slice q1 info.length cp1).ownBlock=some k→w.heap.size≤k:=fun k hk=>(World.ownsRow.lt (Xa HOW) k hk).1
 clear hbA HB1 HOW c5;generalize (w1.alloc (.cells #[.int .i64 fa,.int .i64 fk,.bool fp,.int .i64 fns,.int .i64 (n:Nat),.slice q1 info.length cp1] 30)).drewN nq=V at*;obtain⟨y0,y1,y2,y3,y4,y5⟩:=Xt hAV;have c6:=hV.c6;rw[hst]at c6;have hh:=Xa HHH;have K2:=hide (Xo2 hV hok hst fa fk fp cmd fns n hn info hcmd hk q1 cp1 hvV hfr hl hl2);have HBV:=hide hbV;have HT:=hide hT;clear hV hAV hvV hfr hbV hT H HHH hh hlt1;go_upto_region 7 with fail
 have hgo:((fk=1∨fk=5∨fk=6)∧cmd=true)∨((fk=7∨fk=8∨fk=9)∧cmd=false)∨fk=2∨fk=3∨fk=4:=Xa HCS;clear HCS;rcases hgo with⟨h1,h2⟩|⟨h1,h2⟩|h1
 ·subst h2;rcases h1 with rfl|rfl|rfl
  all_goals
   go_wp2_with fail
   refine(Xa K2).mono ?_;rintro e w5 ⟨rfl,own5,h5,u5⟩;have HR:=hide (And.intro h5 (Zv.new (Xa HBV) u5 (Xa HT)));clear K2 h5 u5 HBV HT c6 y0 y1 y2 y3 y4 y5;go_wp2
   go_ret
   exact⟨rfl,_,(Xa HR).1,(Xa HR).2⟩
 ·subst h2;rcases h1 with rfl|rfl|rfl
  all_goals
   go_wp2_with fail
   refine(Xa K2).mono ?_;rintro e w5 ⟨rfl,own5,h5,u5⟩;have HR:=hide (And.intro h5 (Zv.new (Xa HBV) u5 (Xa HT)));clear K2 h5 u5 HBV HT c6 y0 y1 y2 y3 y4 y5;go_wp2
   go_ret
   exact⟨rfl,_,(Xa HR).1,(Xa HR).2⟩
 ·rcases h1 with rfl|rfl|rfl
  all_goals
   go_wp2_with fail
   refine(Xa K2).mono ?_;rintro e w5 ⟨rfl,own5,h5,u5⟩;have HR:=hide (And.intro h5 (Zv.new (Xa HBV) u5 (Xa HT)));clear K2 h5 u5 HBV HT c6 y0 y1 y2 y3 y4 y5;go_wp2
   go_ret
   exact⟨rfl,_,(Xa HR).1,(Xa HR).2⟩
theorem XfT (h:TAt w own i b c s false q cm o ev ce oe)(hst:s.state=3)(p:Option Addr)(cp:Nat)(l:List UInt8)(fa fk:Int)(fp:Bool)(fns:Int)(fnr:Int)(info:Msg)(hsrc:XU w p l)(hll:l.length≤1048576)(hcp:l.length≤cp)(hrd:Xi c.m l=(0,(⟨fa,fk,fp,fns,fnr,info⟩:Fr)))(hk:1≤fk∧fk≤9)(hh:Zf c (⟨fa,fk,fp,fns,fnr,info⟩:Fr)=true)(hl:s.out.length+32≤2199023255552)(hl2:s.events.length≤2199023255552):
  Calls Tryz.prog 94 #[.pointer (some ⟨b,0,none⟩),.slice p l.length cp] w fun e w'=>Yn 0 i b c (YN c (⟨fa,fk,fp,fns,fnr,info⟩:Fr) s) false own w e w':=by
 have c21:=h.c21;have c0:=h.c0;have hlt:=h.lt;have k1:=YQ c.m p cp l w hsrc hll hcp;rw[hrd]at k1;have K1:=hide k1;obtain⟨cmd,hcmd⟩:∃cmd:Bool,(fa==(c.addr:Int))=cmd:=⟨_,rfl⟩;have hcs:=Ji hcmd hh hk;have H:=hide h;have HHH:=hide hh;have HCS:=hide hcs;clear h hsrc hrd k1 hcs;go_enter Tryz.func94,Tryz.ntmps94
 go_wp2_with fail
 refine(Xa K1).mono ?_;rintro e w1 ⟨q1,cp1,rfl,hown1,_,hb1⟩;have h1:=(Xa H).later hb1;have c5:=h1.c5;have hlt1:=h1.lt;have HOW:=hide hown1;have HB1:=hide hb1;clear K1 h1 hown1 hb1 c21 c0 hh;go_wp2_with fail
 go_quiet (fail)
 have hbA:=(Xa HB1).alloc (Xa HB1).size (.cells #[.int .i64 fa,.int .i64 fk,.bool fp,.int .i64 fns,.int .i64 fnr,.slice q1 info.length cp1] 30);have hbV:Below w.heap.size w ((w1.alloc (.cells #[.int .i64 fa,.int .i64 fk,.bool fp,.int .i64 fns,.int .i64 fnr,.slice q1 info.length cp1] 30)).drewN nq):=below_drewN hbA nq;have hV:=(Xa H).later hbV;have hAV:((w1.alloc (.cells #[.int .i64 fa,.int .i64 fk,.bool fp,.int .i64 fns,.int .i64 fnr,.slice q1 info.length cp1] 30)).drewN nq).heap[w1.heap.size]?=some (.cells #[.int .i64 fa,.int .i64 fk,.bool fp,.int .i64 fns,.int .i64 fnr,.slice q1 info.length cp1] 30 (0,0)):=Xg w1 _;have hvV:((w1.alloc (.cells #[.int .i64 fa,.int .i64 fk,.bool fp,.int .i64 fns,.int .i64 fnr,.slice q1 info.length cp1] 30)).drewN nq).ownsRow 0 5 1 (.slice q1 info.length cp1) info.length (Lib.byteCells info):=Xw (World.ownsRow.alloc (Xa HOW) _) (Nat.zero_le _)
 have hfr:∀k,(Value.slice q1 info.length cp1).ownBlock=some k→own k=0∧k≠0:=fun k hk=>by
  have:=(World.ownsRow.lt (Xa HOW) k hk).1;exact⟨(Xa H).Xp k this,by omega⟩
 have hT:∀k,(Value.slice q1 info.length cp1).ownBlock=some k→w.heap.size≤k:=fun k hk=>(World.ownsRow.lt (Xa HOW) k hk).1
 clear hbA HB1 HOW c5;generalize (w1.alloc (.cells #[.int .i64 fa,.int .i64 fk,.bool fp,.int .i64 fns,.int .i64 fnr,.slice q1 info.length cp1] 30)).drewN nq=V at*;obtain⟨y0,y1,y2,y3,y4,y5⟩:=Xt hAV;have c6:=hV.c6;rw[hst]at c6;have hh:=Xa HHH;have K2:=hide (XhY hV fa fk fp fns fnr info hk q1 cp1 (by omega) (by omega));have HBV:=hide hbV;have HT:=hide hT;clear hV hAV hvV hfr hbV hT H HHH hh hlt1;go_upto_region 7 with fail
 have hgo:((fk=1∨fk=5∨fk=6)∧cmd=true)∨((fk=7∨fk=8∨fk=9)∧cmd=false)∨fk=2∨fk=3∨fk=4:=Xa HCS;clear HCS;rcases hgo with⟨h1,h2⟩|⟨h1,h2⟩|h1
 ·subst h2;rcases h1 with rfl|rfl|rfl
  all_goals
   go_wp2_with fail
   refine(Xa K2).mono ?_;rintro e w5 ⟨rfl,own5,h5,u5⟩;have HR:=hide (And.intro h5 (Upd.of (Xa HBV) u5));clear K2 h5 u5 HBV HT c6 y0 y1 y2 y3 y4 y5;go_wp2
   go_ret
   exact⟨rfl,_,(Xa HR).1,(Xa HR).2⟩
 ·subst h2;rcases h1 with rfl|rfl|rfl
  all_goals
   go_wp2_with fail
   refine(Xa K2).mono ?_;rintro e w5 ⟨rfl,own5,h5,u5⟩;have HR:=hide (And.intro h5 (Upd.of (Xa HBV) u5));clear K2 h5 u5 HBV HT c6 y0 y1 y2 y3 y4 y5;go_wp2
   go_ret
   exact⟨rfl,_,(Xa HR).1,(Xa HR).2⟩
 ·rcases h1 with rfl|rfl|rfl
  all_goals
   go_wp2_with fail
   refine(Xa K2).mono ?_;rintro e w5 ⟨rfl,own5,h5,u5⟩;have HR:=hide (And.intro h5 (Upd.of (Xa HBV) u5));clear K2 h5 u5 HBV HT c6 y0 y1 y2 y3 y4 y5;go_wp2
   go_ret
   exact⟨rfl,_,(Xa HR).1,(Xa HR).2⟩
theorem Xhq (h:TAt w own i b c s false q cm o ev ce oe)(hst:s.state=4)(p:Option Addr)(cp:Nat)(l:List UInt8)(fa fk:Int)(fp:Bool)(fns:Int)(fnr:Int)(info:Msg)(hsrc:XU w p l)(hll:l.length≤1048576)(hcp:l.length≤cp)(hrd:Xi c.m l=(0,(⟨fa,fk,fp,fns,fnr,info⟩:Fr)))(hk:1≤fk∧fk≤9)(hh:Zf c (⟨fa,fk,fp,fns,fnr,info⟩:Fr)=true)(hl:s.out.length+32≤2199023255552)(hl2:s.events.length≤2199023255552):
  Calls Tryz.prog 94 #[.pointer (some ⟨b,0,none⟩),.slice p l.length cp] w fun e w'=>Yn 0 i b c (Y3 c (⟨fa,fk,fp,fns,fnr,info⟩:Fr) s) false own w e w':=by
 have c21:=h.c21;have c0:=h.c0;have hlt:=h.lt;have k1:=YQ c.m p cp l w hsrc hll hcp;rw[hrd]at k1;have K1:=hide k1;obtain⟨cmd,hcmd⟩:∃cmd:Bool,(fa==(c.addr:Int))=cmd:=⟨_,rfl⟩;have hcs:=Ji hcmd hh hk;have H:=hide h;have HHH:=hide hh;have HCS:=hide hcs;clear h hsrc hrd k1 hcs;go_enter Tryz.func94,Tryz.ntmps94
 go_wp2_with fail
 refine(Xa K1).mono ?_;rintro e w1 ⟨q1,cp1,rfl,hown1,_,hb1⟩;have h1:=(Xa H).later hb1;have c5:=h1.c5;have hlt1:=h1.lt;have HOW:=hide hown1;have HB1:=hide hb1;clear K1 h1 hown1 hb1 c21 c0 hh;go_wp2_with fail
 go_quiet (fail)
 have hbA:=(Xa HB1).alloc (Xa HB1).size (.cells #[.int .i64 fa,.int .i64 fk,.bool fp,.int .i64 fns,.int .i64 fnr,.slice q1 info.length cp1] 30);have hbV:Below w.heap.size w ((w1.alloc (.cells #[.int .i64 fa,.int .i64 fk,.bool fp,.int .i64 fns,.int .i64 fnr,.slice q1 info.length cp1] 30)).drewN nq):=below_drewN hbA nq;have hV:=(Xa H).later hbV;have hAV:((w1.alloc (.cells #[.int .i64 fa,.int .i64 fk,.bool fp,.int .i64 fns,.int .i64 fnr,.slice q1 info.length cp1] 30)).drewN nq).heap[w1.heap.size]?=some (.cells #[.int .i64 fa,.int .i64 fk,.bool fp,.int .i64 fns,.int .i64 fnr,.slice q1 info.length cp1] 30 (0,0)):=Xg w1 _;have hvV:((w1.alloc (.cells #[.int .i64 fa,.int .i64 fk,.bool fp,.int .i64 fns,.int .i64 fnr,.slice q1 info.length cp1] 30)).drewN nq).ownsRow 0 5 1 (.slice q1 info.length cp1) info.length (Lib.byteCells info):=Xw (World.ownsRow.alloc (Xa HOW) _) (Nat.zero_le _)
 have hfr:∀k,(Value.slice q1 info.length cp1).ownBlock=some k→own k=0∧k≠0:=fun k hk=>by
  have:=(World.ownsRow.lt (Xa HOW) k hk).1;exact⟨(Xa H).Xp k this,by omega⟩
 have hT:∀k,(Value.slice q1 info.length cp1).ownBlock=some k→w.heap.size≤k:=fun k hk=>(World.ownsRow.lt (Xa HOW) k hk).1
 clear hbA HB1 HOW c5;generalize (w1.alloc (.cells #[.int .i64 fa,.int .i64 fk,.bool fp,.int .i64 fns,.int .i64 fnr,.slice q1 info.length cp1] 30)).drewN nq=V at*;obtain⟨y0,y1,y2,y3,y4,y5⟩:=Xt hAV;have c6:=hV.c6;rw[hst]at c6;have hh:=Xa HHH;have K2:=hide (Xi0 hV fa fk fp cmd fns fnr info hcmd hh hk q1 cp1 (by omega) (by omega));have HBV:=hide hbV;have HT:=hide hT;clear hV hAV hvV hfr hbV hT H HHH hh hlt1;go_upto_region 7 with fail
 have hgo:((fk=1∨fk=5∨fk=6)∧cmd=true)∨((fk=7∨fk=8∨fk=9)∧cmd=false)∨fk=2∨fk=3∨fk=4:=Xa HCS;clear HCS;rcases hgo with⟨h1,h2⟩|⟨h1,h2⟩|h1
 ·subst h2;rcases h1 with rfl|rfl|rfl
  all_goals
   go_wp2_with fail
   refine(Xa K2).mono ?_;rintro e w5 ⟨rfl,own5,h5,u5⟩;have HR:=hide (And.intro h5 (Upd.of (Xa HBV) u5));clear K2 h5 u5 HBV HT c6 y0 y1 y2 y3 y4 y5;go_wp2
   go_ret
   exact⟨rfl,_,(Xa HR).1,(Xa HR).2⟩
 ·subst h2;rcases h1 with rfl|rfl|rfl
  all_goals
   go_wp2_with fail
   refine(Xa K2).mono ?_;rintro e w5 ⟨rfl,own5,h5,u5⟩;have HR:=hide (And.intro h5 (Upd.of (Xa HBV) u5));clear K2 h5 u5 HBV HT c6 y0 y1 y2 y3 y4 y5;go_wp2
   go_ret
   exact⟨rfl,_,(Xa HR).1,(Xa HR).2⟩
 ·rcases h1 with rfl|rfl|rfl
  all_goals
   go_wp2_with fail
   refine(Xa K2).mono ?_;rintro e w5 ⟨rfl,own5,h5,u5⟩;have HR:=hide (And.intro h5 (Upd.of (Xa HBV) u5));clear K2 h5 u5 HBV HT c6 y0 y1 y2 y3 y4 y5;go_wp2
   go_ret
   exact⟨rfl,_,(Xa HR).1,(Xa HR).2⟩
end
end Go.Proofs.YtkalonhalhdlaaaGreatDoor
