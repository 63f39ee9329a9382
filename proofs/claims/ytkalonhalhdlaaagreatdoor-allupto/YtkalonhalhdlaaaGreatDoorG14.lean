import Derived.Test.YtkalonhalhdlaaaGreatDoorG13
set_option maxHeartbeats 4000000
set_option maxRecDepth 100000
namespace Go.Proofs.YtkalonhalhdlaaaGreatDoor
open Go.RowKit
section
variable {w W:World}{own:Nat→Nat}{i b:Nat}{c:Cfg}{s:St}{cl:Bool}{q cm o ev:Value}{ce oe:List Value}
theorem YG (h:TAt w own i b c s cl q cm o ev ce oe)(k n:Nat)(hk:k≤4)(hl:s.events.length≤2199023255552):
  Calls Tryz.prog 102 #[.pointer (some ⟨b,0,none⟩),.int .i64 k,.int .i64 n] w fun e w'=>XA i b c (tell n {over s with state:=k}) cl own w e w':=by
 have K1:=hide (XgT h);have hlt:=h.lt;have HFIT:=hide h.sok;clear h;go_enter Tryz.func102,Tryz.ntmps102
 go_wp2_with fail
 refine(Xa K1).mono ?_;rintro e w1 ⟨rfl,h1,u1⟩;clear K1;have c6:=h1.c6;have fz:=h1.fz;have hK:Xb (· =b) w1 (w1.setCell ⟨b,6,none⟩ (.int .i64 k)):=(Xb.refl _ w1).setB 6 _;have h2:TAt (w1.setCell ⟨b,6,none⟩ (.int .i64 k)) own i b c {over s with state:=k} cl (.slice none 0 0) cm o ev ce oe:=h1.YL hK (h1.hd.state k) (YZ.nil _ _ _) XB.same XB.same (.inl ⟨rfl,rfl⟩) (JC h1.cok (Xa HFIT) k hk 0 0 (Nat.zero_le _) (Nat.zero_le _));have u2:Upd i own own w (w1.setCell ⟨b,6,none⟩ (.int .i64 k)):=u1.trans (h1.upd hK);have K2:=hide (Xcj h2 n hl);have U2:=hide u2;clear h1 h2 hK u1 u2;go_wp2_with fail
 refine(Xa K2).mono ?_;rintro e w2 ⟨rfl,own',h3,u3⟩;have HR:=hide (And.intro h3 ((Xa U2).trans u3));clear K2 h3 u3 U2 c6 fz;go_wp2
 go_end0
 exact⟨rfl,own',(Xa HR).1,(Xa HR).2⟩
theorem Y6 (w:World):Qn w none []:=.inl ⟨rfl,rfl⟩
theorem XbG (h:TAt w own i b c s cl q cm o ev ce oe)(k n:Nat)(hk:k≤4)(hl:s.out.length≤2199023255552):
  Calls Tryz.prog 96 #[.pointer (some ⟨b,0,none⟩),.int .i64 k,.int .i64 n] w fun e w'=>XA i b c (ask c k n s) cl own w e w':=by
 have K1:=hide (XgT h);have hlt:=h.lt;have HFIT:=hide h.sok;clear h;go_enter Tryz.func96,Tryz.ntmps96
 go_wp2_with fail
 refine(Xa K1).mono ?_;rintro e w1 ⟨rfl,h1,u1⟩;clear K1;have c2:=h1.c2;have c6:=h1.c6;have c12:w1.cell? ⟨b,12,none⟩=some (.int .i64 (0:Nat)):=h1.cell 12 rfl;have c13:w1.cell? ⟨b,13,none⟩=some (.int .i64 (0:Nat)):=h1.cell 13 rfl;have fz:=h1.fz;have hK:Xb (· =b) w1 (((w1.setCell ⟨b,6,none⟩ (.int .i64 k)).setCell ⟨b,13,none⟩ (.int .i64 1)).setCell ⟨b,12,none⟩ (.int .i64 c.tim)):=(((Xb.refl _ w1).setB 6 _).setB 13 _).setB 12 _;have h2:TAt (((w1.setCell ⟨b,6,none⟩ (.int .i64 k)).setCell ⟨b,13,none⟩ (.int .i64 1)).setCell ⟨b,12,none⟩ (.int .i64 c.tim)) own i b c {over s with state:=k,tries:=1,timer:=c.tim} cl (.slice none 0 0) cm o ev ce oe:=h1.YL hK ((((h1.hd.state k).tries 1).timer c.tim).as _ rfl) (YZ.nil _ _ _) XB.same XB.same (.inl ⟨rfl,rfl⟩) (JC h1.cok (Xa HFIT) k hk c.tim 1 (Nat.le_refl _) h1.cok.tri1);have u2:Upd i own own w (((w1.setCell ⟨b,6,none⟩ (.int .i64 k)).setCell ⟨b,13,none⟩ (.int .i64 1)).setCell ⟨b,12,none⟩ (.int .i64 c.tim)):=u1.trans (h1.upd hK);have k2:=YR h2 true ⟨0,n,true,0,0,[]⟩ none 0 (Y6 _) hl;unfold frV at k2;have K2:=hide k2;have U2:=hide u2;clear h1 h2 hK u1 u2 k2;go_wp2_with fail
 refine(Xa K2).mono ?_;rintro e w2 ⟨rfl,own',o',oe',h3,u3⟩;have HR:=hide (And.intro h3 ((Xa U2).trans u3));clear K2 h3 u3 U2 c2 c6 c12 c13 fz;go_wp2
 go_end0
 exact⟨rfl,own',⟨_,_,_,_,_,_,(Xa HR).1⟩,(Xa HR).2⟩
theorem ZP (h:TAt w own i b c s cl q cm o ev ce oe)(cmd poll:Bool)(hl:s.out.length≤2199023255552):
  Calls Tryz.prog 92 #[.pointer (some ⟨b,0,none⟩),.bool cmd,.bool poll] w fun e w'=>e=.returned (.tuple #[])∧∃own' o' oe',TAt w' own' i b c (XgZ c cmd ⟨0,ready c s,poll,0,s.vr,[]⟩ s) cl q cm o' ev ce oe'∧Upd i own own' w w':=by
 have K1:=hide (Zx h);have hlt:=h.lt;have K2:=hide (fun N=>YR (h.drewN N) cmd ⟨0,ready c s,poll,0,s.vr,[]⟩ none 0 (Y6 _) hl);have c9:∀N,(w.drewN N).cell? ⟨b,9,none⟩=some (.int .i64 s.vr):=fun N=>(h.drewN N).cell 9 rfl
 have hrd:ready c s=if XO c s then 3 else 2:=rfl
 rw[hrd]at K2⊢;have U:Hid (∀ N,Upd i own own w (w.drewN N)):=hide (fun N=>⟨(Xb.refl _ w).drewN N,fun _ _=>rfl⟩);clear h hrd;unfold frV at K2;generalize XO c s=hd at*;cases hd
 all_goals
  go_enter Tryz.func92,Tryz.ntmps92
  go_wp2_with fail
  refine(Xa K1).mono ?_;rintro e w1 ⟨rfl,N,rfl⟩;have c9':=c9 N;have K3:=hide (Xa K2 N);clear K1 K2;go_wp2_with fail
  refine(Xa K3).mono ?_;rintro e w2 ⟨rfl,own',o',oe',h3,u3⟩;have HR:=hide (And.intro h3 ((Xa U N).trans u3));clear K3 h3 u3 U c9 c9';go_wp2
  go_end0
  first|exact⟨rfl,own',o',oe',(Xa HR).1,(Xa HR).2⟩|exact⟨rfl,own',⟨o',oe',(Xa HR).1⟩,(Xa HR).2⟩
end
section
variable {w:World}{own:Nat→Nat}{i b:Nat}{c:Cfg}{s:St}{cl:Bool}{q cm o ev:Value}{ce oe:List Value}
theorem Xbm (h:TAt w own i b c s cl q cm o ev ce oe)(p:Bool)(hl:s.out.length≤2199023255552):
  Calls Tryz.prog 148 #[.pointer (some ⟨b,0,none⟩),.bool p] w fun e w'=>e=.returned (.tuple #[])∧∃own' o' oe',TAt w' own' i b c (report c p s) cl q cm o' ev ce oe'∧Upd i own own' w w':=by
 have hlt:=h.lt;have c0:=h.c0;have hm:=h.cok.m
 obtain⟨n,hn,hn5⟩:∃n:Nat,JE c.m=n∧((c.m=8∧n=3)∨(c.m=128∧n=5)):=by
  rcases hm with e|e
  ·exact ⟨3,by rw[e];rfl,.inl ⟨e,rfl⟩⟩
  ·exact ⟨5,by rw[e];rfl,.inr ⟨e,rfl⟩⟩
 have hpost:report c p s=XgZ c false ⟨0,9,p,0,0,List.replicate n 0⟩ s:=by unfold report;rw[hn];rfl
 have hbl:Below w.heap.size w (w.alloc (.cells (Lib.byteCells (List.replicate n 0)).toArray 5)):=(Below.refl _ w).alloc (Nat.le_refl _) _;have k2:=YR (h.later hbl) false ⟨0,9,p,0,0,List.replicate n 0⟩ (some ⟨w.heap.size,0,none⟩) n (Xhl n w).e hl;rw[Xgi]at k2;have H2:=hide k2;have hmk:=Xfc n (by omega) w;rw[hpost];generalize hz:(Lib.byteCells (List.replicate n 0)).toArray=zs at H2 hmk hbl;have HB:=hide hbl;clear h k2 hpost hn hz hbl hm;rcases hn5 with⟨e,rfl⟩|⟨e,rfl⟩
 all_goals
  rw[e]at c0
  first|rw[show((3:Nat):Int)=3 from rfl]at hmk|rw[show((5:Nat):Int)=5 from rfl]at hmk
  clear e;go_enter Tryz.func148,Tryz.ntmps148
  go_wp2_with fail
  refine(Xa H2).mono ?_;rintro e w2 ⟨rfl,own2,o2,oe2,h3,u3⟩;have HR:=hide (And.intro h3 (Upd.of (Xa HB) u3));clear h3 u3 H2 HB hmk;go_wp2
  go_end0
  exact⟨rfl,_,_,_,(Xa HR).1,(Xa HR).2⟩
theorem XoI (h:TAt w own i b c s cl q cm o ev ce oe)(fa:Int)(fp:Bool)(cm0:Bool)(fns fnr:Int)(fq:Option Addr)(fl fc:Nat)(hl:s.out.length≤2199023255552)(hl2:s.events.length≤2199023255552):
  Calls Tryz.prog 122 #[.pointer (some ⟨b,0,none⟩),.agg #[.int .i64 fa,.int .i64 5,.bool fp,.int .i64 fns,.int .i64 fnr,.slice fq fl fc],.bool cm0] w fun e w'=>XA i b c (accept c fp 1 s) cl own w e w':=by
 have hlt:=h.lt;have hn0:=h.Xp w.heap.size (Nat.le_refl _);have k1:=fun V (hV:Below w.heap.size w V)=>YG (h.later hV) 2 1 (by omega) hl2
 skip
 have K1:=hide k1;clear h k1;go_enter Tryz.func122,Tryz.ntmps122
 go_wp2_with fail
 refine(Xa K1 _ ?_).mono ?_
 ·exact (Below.refl _ w).alloc (Nat.le_refl _) _
 rintro e w1 ⟨rfl,own1,⟨q1,cm1,o1,ev1,ce1,oe1,h1⟩,u1⟩;have HU1:=hide (u1.of ((Below.refl _ w).alloc (Nat.le_refl _) _));obtain⟨y0,y1,y2,y3,y4,y5⟩:=Xt (Qh u1 hn0);have k2:=YR h1 false ⟨0,7,fp,0,0,[]⟩ none 0 (Y6 _) hl;unfold frV at k2;have K2:=hide k2;clear h1 u1 K1 k2;go_wp2_with fail
 refine(Xa K2).mono ?_;rintro e w2 ⟨rfl,own2,o2,oe2,h2,u2⟩;have HR:=hide (And.intro h2 ((Xa HU1).trans u2));clear h2 u2 K2 HU1 y0 y1 y2 y3 y4 y5;go_wp2
 go_end0
 exact⟨rfl,_,⟨_,_,_,_,_,_,(Xa HR).1⟩,(Xa HR).2⟩
theorem XoJ (h:TAt w own i b c s cl q cm o ev ce oe)(fa:Int)(fp:Bool)(cm0:Bool)(fns fnr:Int)(fq:Option Addr)(fl fc:Nat)(hl:s.out.length≤2199023255552):
  Calls Tryz.prog 122 #[.pointer (some ⟨b,0,none⟩),.agg #[.int .i64 fa,.int .i64 6,.bool fp,.int .i64 fns,.int .i64 fnr,.slice fq fl fc],.bool cm0] w fun e w'=>XA i b c (Yj c 8 fp s) cl own w e w':=by
 have hlt:=h.lt;have hn0:=h.Xp w.heap.size (Nat.le_refl _);have k1:=fun V (hV:Below w.heap.size w V)=>YR (h.later hV) false ⟨0,8,fp,0,0,[]⟩ none 0 (Y6 _) hl
 unfold frV at k1;have K1:=hide k1;clear h k1;go_enter Tryz.func122,Tryz.ntmps122
 go_wp2_with fail
 refine(Xa K1 _ ?_).mono ?_
 ·exact (Below.refl _ w).alloc (Nat.le_refl _) _
 rintro e w1 ⟨rfl,own1,o1,oe1,h1,u1⟩;have HU1:=hide (u1.of ((Below.refl _ w).alloc (Nat.le_refl _) _));have HR:=hide (And.intro h1 (Xa HU1));clear h1 u1 K1 HU1;go_wp2
 go_end0
 exact⟨rfl,_,⟨_,_,_,_,_,_,(Xa HR).1⟩,(Xa HR).2⟩
theorem Xn4 (h:TAt w own i b c s cl q cm o ev ce oe)(fa:Int)(fk:Int)(fns fnr:Int)(fq:Option Addr)(fl fc:Nat)(n5:(fk==5)=false)(n6:(fk==6)=false)(hl:s.out.length≤2199023255552):
  Calls Tryz.prog 122 #[.pointer (some ⟨b,0,none⟩),.agg #[.int .i64 fa,.int .i64 fk,.bool true,.int .i64 fns,.int .i64 fnr,.slice fq fl fc],.bool true] w fun e w'=>XA i b c (Yj c 8 true s) cl own w e w':=by
 have hlt:=h.lt;have hn0:=h.Xp w.heap.size (Nat.le_refl _);have k1:=fun V (hV:Below w.heap.size w V)=>YR (h.later hV) false ⟨0,8,true,0,0,[]⟩ none 0 (Y6 _) hl
 unfold frV at k1;have K1:=hide k1;clear h k1;go_enter Tryz.func122,Tryz.ntmps122
 go_wp2_with fail
 refine(Xa K1 _ ?_).mono ?_
 ·exact (Below.refl _ w).alloc (Nat.le_refl _) _
 rintro e w1 ⟨rfl,own1,o1,oe1,h1,u1⟩;have HU1:=hide (u1.of ((Below.refl _ w).alloc (Nat.le_refl _) _));have HR:=hide (And.intro h1 (Xa HU1));clear h1 u1 K1 HU1;go_wp2
 go_end0
 exact⟨rfl,_,⟨_,_,_,_,_,_,(Xa HR).1⟩,(Xa HR).2⟩
theorem XiI (h:TAt w own i b c s cl q cm o ev ce oe)(fa:Int)(fk:Int)(fp:Bool)(fns fnr:Int)(fq:Option Addr)(fl fc:Nat)(n5:(fk==5)=false)(n6:(fk==6)=false):
  Calls Tryz.prog 122 #[.pointer (some ⟨b,0,none⟩),.agg #[.int .i64 fa,.int .i64 fk,.bool fp,.int .i64 fns,.int .i64 fnr,.slice fq fl fc],.bool false] w fun e w'=>XA i b c (s) cl own w e w':=by
 have hlt:=h.lt;have hn0:=h.Xp w.heap.size (Nat.le_refl _);have HZ:Hid (∀ V,Below w.heap.size w V→XA i b c (s) cl own w (.returned (.tuple #[])) V):=fun V hV=>⟨rfl,own,⟨_,_,_,_,_,_,h.later hV⟩,Upd.of hV (Upd.refl _ _ _)⟩
 clear h;go_enter Tryz.func122,Tryz.ntmps122
 go_wp2
 go_end0
 exact Xa HZ _ ((Below.refl _ w).alloc (Nat.le_refl _) _)
theorem Xn5 (h:TAt w own i b c s cl q cm o ev ce oe)(fa:Int)(fk:Int)(fns fnr:Int)(fq:Option Addr)(fl fc:Nat)(n5:(fk==5)=false)(n6:(fk==6)=false):
  Calls Tryz.prog 122 #[.pointer (some ⟨b,0,none⟩),.agg #[.int .i64 fa,.int .i64 fk,.bool false,.int .i64 fns,.int .i64 fnr,.slice fq fl fc],.bool true] w fun e w'=>XA i b c (s) cl own w e w':=by
 have hlt:=h.lt;have hn0:=h.Xp w.heap.size (Nat.le_refl _);have HZ:Hid (∀ V,Below w.heap.size w V→XA i b c (s) cl own w (.returned (.tuple #[])) V):=fun V hV=>⟨rfl,own,⟨_,_,_,_,_,_,h.later hV⟩,Upd.of hV (Upd.refl _ _ _)⟩
 clear h;go_enter Tryz.func122,Tryz.ntmps122
 go_wp2
 go_end0
 exact Xa HZ _ ((Below.refl _ w).alloc (Nat.le_refl _) _)
theorem XkF (h:TAt w own i b c s cl q cm o ev ce oe)(fa:Int)(fp:Bool)(fns fnr:Int)(fq:Option Addr)(fl fc:Nat)(hl:s.out.length≤2199023255552):
  Calls Tryz.prog 123 #[.pointer (some ⟨b,0,none⟩),.agg #[.int .i64 fa,.int .i64 5,.bool fp,.int .i64 fns,.int .i64 fnr,.slice fq fl fc]] w fun e w'=>XA i b c (Yj c 7 fp s) cl own w e w':=by
 have hlt:=h.lt;have hn0:=h.Xp w.heap.size (Nat.le_refl _);have k1:=fun V (hV:Below w.heap.size w V)=>YR (h.later hV) false ⟨0,7,fp,0,0,[]⟩ none 0 (Y6 _) hl
 unfold frV at k1;have K1:=hide k1;clear h k1;go_enter Tryz.func123,Tryz.ntmps123
 go_wp2_with fail
 refine(Xa K1 _ ?_).mono ?_
 ·exact (Below.refl _ w).alloc (Nat.le_refl _) _
 rintro e w1 ⟨rfl,own1,o1,oe1,h1,u1⟩;have HU1:=hide (u1.of ((Below.refl _ w).alloc (Nat.le_refl _) _));have HR:=hide (And.intro h1 (Xa HU1));clear h1 u1 K1 HU1;go_wp2
 go_end0
 exact⟨rfl,_,⟨_,_,_,_,_,_,(Xa HR).1⟩,(Xa HR).2⟩
theorem XkG (h:TAt w own i b c s cl q cm o ev ce oe)(fa:Int)(fp:Bool)(fns fnr:Int)(fq:Option Addr)(fl fc:Nat)(hl:s.out.length≤2199023255552):
  Calls Tryz.prog 123 #[.pointer (some ⟨b,0,none⟩),.agg #[.int .i64 fa,.int .i64 6,.bool fp,.int .i64 fns,.int .i64 fnr,.slice fq fl fc]] w fun e w'=>XA i b c (Yj c 8 fp s) cl own w e w':=by
 have hlt:=h.lt;have hn0:=h.Xp w.heap.size (Nat.le_refl _);have k1:=fun V (hV:Below w.heap.size w V)=>YR (h.later hV) false ⟨0,8,fp,0,0,[]⟩ none 0 (Y6 _) hl
 unfold frV at k1;have K1:=hide k1;clear h k1;go_enter Tryz.func123,Tryz.ntmps123
 go_wp2_with fail
 refine(Xa K1 _ ?_).mono ?_
 ·exact (Below.refl _ w).alloc (Nat.le_refl _) _
 rintro e w1 ⟨rfl,own1,o1,oe1,h1,u1⟩;have HU1:=hide (u1.of ((Below.refl _ w).alloc (Nat.le_refl _) _));have HR:=hide (And.intro h1 (Xa HU1));clear h1 u1 K1 HU1;go_wp2
 go_end0
 exact⟨rfl,_,⟨_,_,_,_,_,_,(Xa HR).1⟩,(Xa HR).2⟩
theorem XkH (h:TAt w own i b c s cl q cm o ev ce oe)(fa:Int)(fns fnr:Int)(fq:Option Addr)(fl fc:Nat)(hl2:s.events.length≤2199023255552):
  Calls Tryz.prog 123 #[.pointer (some ⟨b,0,none⟩),.agg #[.int .i64 fa,.int .i64 7,.bool true,.int .i64 fns,.int .i64 fnr,.slice fq fl fc]] w fun e w'=>XA i b c (Xap 1 s) cl own w e w':=by
 have hlt:=h.lt;have hn0:=h.Xp w.heap.size (Nat.le_refl _);have k1:=fun V (hV:Below w.heap.size w V)=>YG (h.later hV) 2 1 (by omega) hl2
 skip
 have K1:=hide k1;clear h k1;go_enter Tryz.func123,Tryz.ntmps123
 go_wp2_with fail
 refine(Xa K1 _ ?_).mono ?_
 ·exact (Below.refl _ w).alloc (Nat.le_refl _) _
 rintro e w1 ⟨rfl,own1,⟨q1,cm1,o1,ev1,ce1,oe1,h1⟩,u1⟩;have HU1:=hide (u1.of ((Below.refl _ w).alloc (Nat.le_refl _) _));have HR:=hide (And.intro h1 (Xa HU1));clear h1 u1 K1 HU1;go_wp2
 go_end0
 exact⟨rfl,_,⟨_,_,_,_,_,_,(Xa HR).1⟩,(Xa HR).2⟩
theorem XkI (h:TAt w own i b c s cl q cm o ev ce oe)(fa:Int)(fns fnr:Int)(fq:Option Addr)(fl fc:Nat)(hl2:s.events.length≤2199023255552):
  Calls Tryz.prog 123 #[.pointer (some ⟨b,0,none⟩),.agg #[.int .i64 fa,.int .i64 8,.bool true,.int .i64 fns,.int .i64 fnr,.slice fq fl fc]] w fun e w'=>XA i b c (Zi 4 s) cl own w e w':=by
 have hlt:=h.lt;have hn0:=h.Xp w.heap.size (Nat.le_refl _);have k1:=fun V (hV:Below w.heap.size w V)=>YG (h.later hV) 0 4 (by omega) hl2
 skip
 have K1:=hide k1;clear h k1;go_enter Tryz.func123,Tryz.ntmps123
 go_wp2_with fail
 refine(Xa K1 _ ?_).mono ?_
 ·exact (Below.refl _ w).alloc (Nat.le_refl _) _
 rintro e w1 ⟨rfl,own1,⟨q1,cm1,o1,ev1,ce1,oe1,h1⟩,u1⟩;have HU1:=hide (u1.of ((Below.refl _ w).alloc (Nat.le_refl _) _));have HR:=hide (And.intro h1 (Xa HU1));clear h1 u1 K1 HU1;go_wp2
 go_end0
 exact⟨rfl,_,⟨_,_,_,_,_,_,(Xa HR).1⟩,(Xa HR).2⟩
theorem Xi5 (h:TAt w own i b c s cl q cm o ev ce oe)(fa:Int)(fns fnr:Int)(fq:Option Addr)(fl fc:Nat):
  Calls Tryz.prog 123 #[.pointer (some ⟨b,0,none⟩),.agg #[.int .i64 fa,.int .i64 7,.bool false,.int .i64 fns,.int .i64 fnr,.slice fq fl fc]] w fun e w'=>XA i b c (s) cl own w e w':=by
 have hlt:=h.lt;have hn0:=h.Xp w.heap.size (Nat.le_refl _);have HZ:Hid (∀ V,Below w.heap.size w V→XA i b c (s) cl own w (.returned (.tuple #[])) V):=fun V hV=>⟨rfl,own,⟨_,_,_,_,_,_,h.later hV⟩,Upd.of hV (Upd.refl _ _ _)⟩
 clear h;go_enter Tryz.func123,Tryz.ntmps123
 go_wp2
 go_end0
 exact Xa HZ _ ((Below.refl _ w).alloc (Nat.le_refl _) _)
theorem Xi6 (h:TAt w own i b c s cl q cm o ev ce oe)(fa:Int)(fns fnr:Int)(fq:Option Addr)(fl fc:Nat):
  Calls Tryz.prog 123 #[.pointer (some ⟨b,0,none⟩),.agg #[.int .i64 fa,.int .i64 8,.bool false,.int .i64 fns,.int .i64 fnr,.slice fq fl fc]] w fun e w'=>XA i b c (s) cl own w e w':=by
 have hlt:=h.lt;have hn0:=h.Xp w.heap.size (Nat.le_refl _);have HZ:Hid (∀ V,Below w.heap.size w V→XA i b c (s) cl own w (.returned (.tuple #[])) V):=fun V hV=>⟨rfl,own,⟨_,_,_,_,_,_,h.later hV⟩,Upd.of hV (Upd.refl _ _ _)⟩
 clear h;go_enter Tryz.func123,Tryz.ntmps123
 go_wp2
 go_end0
 exact Xa HZ _ ((Below.refl _ w).alloc (Nat.le_refl _) _)
theorem Xi7 (h:TAt w own i b c s cl q cm o ev ce oe)(fa:Int)(fk:Int)(fp:Bool)(fns fnr:Int)(fq:Option Addr)(fl fc:Nat)(n5:(fk==5)=false)(n6:(fk==6)=false)(n7:(fk==7)=false)(n8:(fk==8)=false):
  Calls Tryz.prog 123 #[.pointer (some ⟨b,0,none⟩),.agg #[.int .i64 fa,.int .i64 fk,.bool fp,.int .i64 fns,.int .i64 fnr,.slice fq fl fc]] w fun e w'=>XA i b c (s) cl own w e w':=by
 have hlt:=h.lt;have hn0:=h.Xp w.heap.size (Nat.le_refl _);have HZ:Hid (∀ V,Below w.heap.size w V→XA i b c (s) cl own w (.returned (.tuple #[])) V):=fun V hV=>⟨rfl,own,⟨_,_,_,_,_,_,h.later hV⟩,Upd.of hV (Upd.refl _ _ _)⟩
 clear h;go_enter Tryz.func123,Tryz.ntmps123
 go_wp2
 go_end0
 exact Xa HZ _ ((Below.refl _ w).alloc (Nat.le_refl _) _)
theorem Xk8 (h:TAt w own i b c s cl q cm o ev ce oe)(fa:Int)(fp:Bool)(fns fnr:Int)(fq:Option Addr)(fl fc:Nat)(hl:s.out.length≤2199023255552):
  Calls Tryz.prog 124 #[.pointer (some ⟨b,0,none⟩),.agg #[.int .i64 fa,.int .i64 5,.bool fp,.int .i64 fns,.int .i64 fnr,.slice fq fl fc]] w fun e w'=>XA i b c (Yj c 8 fp s) cl own w e w':=by
 have hlt:=h.lt;have hn0:=h.Xp w.heap.size (Nat.le_refl _);have k1:=fun V (hV:Below w.heap.size w V)=>YR (h.later hV) false ⟨0,8,fp,0,0,[]⟩ none 0 (Y6 _) hl
 unfold frV at k1;have K1:=hide k1;clear h k1;go_enter Tryz.func124,Tryz.ntmps124
 go_wp2_with fail
 refine(Xa K1 _ ?_).mono ?_
 ·exact (Below.refl _ w).alloc (Nat.le_refl _) _
 rintro e w1 ⟨rfl,own1,o1,oe1,h1,u1⟩;have HU1:=hide (u1.of ((Below.refl _ w).alloc (Nat.le_refl _) _));have HR:=hide (And.intro h1 (Xa HU1));clear h1 u1 K1 HU1;go_wp2
 go_end0
 exact⟨rfl,_,⟨_,_,_,_,_,_,(Xa HR).1⟩,(Xa HR).2⟩
theorem Xk9 (h:TAt w own i b c s cl q cm o ev ce oe)(fa:Int)(fp:Bool)(fns fnr:Int)(fq:Option Addr)(fl fc:Nat)(hl:s.out.length≤2199023255552):
  Calls Tryz.prog 124 #[.pointer (some ⟨b,0,none⟩),.agg #[.int .i64 fa,.int .i64 6,.bool fp,.int .i64 fns,.int .i64 fnr,.slice fq fl fc]] w fun e w'=>XA i b c (Yj c 7 fp s) cl own w e w':=by
 have hlt:=h.lt;have hn0:=h.Xp w.heap.size (Nat.le_refl _);have k1:=fun V (hV:Below w.heap.size w V)=>YR (h.later hV) false ⟨0,7,fp,0,0,[]⟩ none 0 (Y6 _) hl
 unfold frV at k1;have K1:=hide k1;clear h k1;go_enter Tryz.func124,Tryz.ntmps124
 go_wp2_with fail
 refine(Xa K1 _ ?_).mono ?_
 ·exact (Below.refl _ w).alloc (Nat.le_refl _) _
 rintro e w1 ⟨rfl,own1,o1,oe1,h1,u1⟩;have HU1:=hide (u1.of ((Below.refl _ w).alloc (Nat.le_refl _) _));have HR:=hide (And.intro h1 (Xa HU1));clear h1 u1 K1 HU1;go_wp2
 go_end0
 exact⟨rfl,_,⟨_,_,_,_,_,_,(Xa HR).1⟩,(Xa HR).2⟩
theorem Xla (h:TAt w own i b c s cl q cm o ev ce oe)(fa:Int)(fns fnr:Int)(fq:Option Addr)(fl fc:Nat)(hl2:s.events.length≤2199023255552):
  Calls Tryz.prog 124 #[.pointer (some ⟨b,0,none⟩),.agg #[.int .i64 fa,.int .i64 7,.bool true,.int .i64 fns,.int .i64 fnr,.slice fq fl fc]] w fun e w'=>XA i b c (Zi 3 s) cl own w e w':=by
 have hlt:=h.lt;have hn0:=h.Xp w.heap.size (Nat.le_refl _);have k1:=fun V (hV:Below w.heap.size w V)=>YG (h.later hV) 0 3 (by omega) hl2
 skip
 have K1:=hide k1;clear h k1;go_enter Tryz.func124,Tryz.ntmps124
 go_wp2_with fail
 refine(Xa K1 _ ?_).mono ?_
 ·exact (Below.refl _ w).alloc (Nat.le_refl _) _
 rintro e w1 ⟨rfl,own1,⟨q1,cm1,o1,ev1,ce1,oe1,h1⟩,u1⟩;have HU1:=hide (u1.of ((Below.refl _ w).alloc (Nat.le_refl _) _));have HR:=hide (And.intro h1 (Xa HU1));clear h1 u1 K1 HU1;go_wp2
 go_end0
 exact⟨rfl,_,⟨_,_,_,_,_,_,(Xa HR).1⟩,(Xa HR).2⟩
theorem Xlb (h:TAt w own i b c s cl q cm o ev ce oe)(fa:Int)(fns fnr:Int)(fq:Option Addr)(fl fc:Nat)(hl2:s.events.length≤2199023255552):
  Calls Tryz.prog 124 #[.pointer (some ⟨b,0,none⟩),.agg #[.int .i64 fa,.int .i64 8,.bool true,.int .i64 fns,.int .i64 fnr,.slice fq fl fc]] w fun e w'=>XA i b c (Zi 3 s) cl own w e w':=by
 have hlt:=h.lt;have hn0:=h.Xp w.heap.size (Nat.le_refl _);have k1:=fun V (hV:Below w.heap.size w V)=>YG (h.later hV) 0 3 (by omega) hl2
 skip
 have K1:=hide k1;clear h k1;go_enter Tryz.func124,Tryz.ntmps124
 go_wp2_with fail
 refine(Xa K1 _ ?_).mono ?_
 ·exact (Below.refl _ w).alloc (Nat.le_refl _) _
 rintro e w1 ⟨rfl,own1,⟨q1,cm1,o1,ev1,ce1,oe1,h1⟩,u1⟩;have HU1:=hide (u1.of ((Below.refl _ w).alloc (Nat.le_refl _) _));have HR:=hide (And.intro h1 (Xa HU1));clear h1 u1 K1 HU1;go_wp2
 go_end0
 exact⟨rfl,_,⟨_,_,_,_,_,_,(Xa HR).1⟩,(Xa HR).2⟩
theorem Xju (h:TAt w own i b c s cl q cm o ev ce oe)(fa:Int)(fns fnr:Int)(fq:Option Addr)(fl fc:Nat):
  Calls Tryz.prog 124 #[.pointer (some ⟨b,0,none⟩),.agg #[.int .i64 fa,.int .i64 7,.bool false,.int .i64 fns,.int .i64 fnr,.slice fq fl fc]] w fun e w'=>XA i b c (s) cl own w e w':=by
 have hlt:=h.lt;have hn0:=h.Xp w.heap.size (Nat.le_refl _);have HZ:Hid (∀ V,Below w.heap.size w V→XA i b c (s) cl own w (.returned (.tuple #[])) V):=fun V hV=>⟨rfl,own,⟨_,_,_,_,_,_,h.later hV⟩,Upd.of hV (Upd.refl _ _ _)⟩
 clear h;go_enter Tryz.func124,Tryz.ntmps124
 go_wp2
 go_end0
 exact Xa HZ _ ((Below.refl _ w).alloc (Nat.le_refl _) _)
theorem Xjv (h:TAt w own i b c s cl q cm o ev ce oe)(fa:Int)(fns fnr:Int)(fq:Option Addr)(fl fc:Nat):
  Calls Tryz.prog 124 #[.pointer (some ⟨b,0,none⟩),.agg #[.int .i64 fa,.int .i64 8,.bool false,.int .i64 fns,.int .i64 fnr,.slice fq fl fc]] w fun e w'=>XA i b c (s) cl own w e w':=by
 have hlt:=h.lt;have hn0:=h.Xp w.heap.size (Nat.le_refl _);have HZ:Hid (∀ V,Below w.heap.size w V→XA i b c (s) cl own w (.returned (.tuple #[])) V):=fun V hV=>⟨rfl,own,⟨_,_,_,_,_,_,h.later hV⟩,Upd.of hV (Upd.refl _ _ _)⟩
 clear h;go_enter Tryz.func124,Tryz.ntmps124
 go_wp2
 go_end0
 exact Xa HZ _ ((Below.refl _ w).alloc (Nat.le_refl _) _)
theorem Xjw (h:TAt w own i b c s cl q cm o ev ce oe)(fa:Int)(fk:Int)(fp:Bool)(fns fnr:Int)(fq:Option Addr)(fl fc:Nat)(n5:(fk==5)=false)(n6:(fk==6)=false)(n7:(fk==7)=false)(n8:(fk==8)=false):
  Calls Tryz.prog 124 #[.pointer (some ⟨b,0,none⟩),.agg #[.int .i64 fa,.int .i64 fk,.bool fp,.int .i64 fns,.int .i64 fnr,.slice fq fl fc]] w fun e w'=>XA i b c (s) cl own w e w':=by
 have hlt:=h.lt;have hn0:=h.Xp w.heap.size (Nat.le_refl _);have HZ:Hid (∀ V,Below w.heap.size w V→XA i b c (s) cl own w (.returned (.tuple #[])) V):=fun V hV=>⟨rfl,own,⟨_,_,_,_,_,_,h.later hV⟩,Upd.of hV (Upd.refl _ _ _)⟩
 clear h;go_enter Tryz.func124,Tryz.ntmps124
 go_wp2
 go_end0
 exact Xa HZ _ ((Below.refl _ w).alloc (Nat.le_refl _) _)
theorem Xms (h:TAt w own i b c s cl q cm o ev ce oe)(fa:Int)(fp:Bool)(cm0:Bool)(fns fnr:Int)(fq:Option Addr)(fl fc:Nat)(hl:s.out.length≤2199023255552)(hl2:s.events.length≤2199023255552):
  Calls Tryz.prog 125 #[.pointer (some ⟨b,0,none⟩),.agg #[.int .i64 fa,.int .i64 5,.bool fp,.int .i64 fns,.int .i64 fnr,.slice fq fl fc],.bool cm0] w fun e w'=>XA i b c (accept c fp 2 s) cl own w e w':=by
 have hlt:=h.lt;have hn0:=h.Xp w.heap.size (Nat.le_refl _);have k1:=fun V (hV:Below w.heap.size w V)=>YG (h.later hV) 2 2 (by omega) hl2
 skip
 have K1:=hide k1;clear h k1;go_enter Tryz.func125,Tryz.ntmps125
 go_wp2_with fail
 refine(Xa K1 _ ?_).mono ?_
 ·exact (Below.refl _ w).alloc (Nat.le_refl _) _
 rintro e w1 ⟨rfl,own1,⟨q1,cm1,o1,ev1,ce1,oe1,h1⟩,u1⟩;have HU1:=hide (u1.of ((Below.refl _ w).alloc (Nat.le_refl _) _));obtain⟨y0,y1,y2,y3,y4,y5⟩:=Xt (Qh u1 hn0);have k2:=YR h1 false ⟨0,7,fp,0,0,[]⟩ none 0 (Y6 _) hl;unfold frV at k2;have K2:=hide k2;clear h1 u1 K1 k2;go_wp2_with fail
 refine(Xa K2).mono ?_;rintro e w2 ⟨rfl,own2,o2,oe2,h2,u2⟩;have HR:=hide (And.intro h2 ((Xa HU1).trans u2));clear h2 u2 K2 HU1 y0 y1 y2 y3 y4 y5;go_wp2
 go_end0
 exact⟨rfl,_,⟨_,_,_,_,_,_,(Xa HR).1⟩,(Xa HR).2⟩
theorem Xmt (h:TAt w own i b c s cl q cm o ev ce oe)(fa:Int)(fp:Bool)(cm0:Bool)(fns fnr:Int)(fq:Option Addr)(fl fc:Nat)(hl:s.out.length≤2199023255552)(hl2:s.events.length≤2199023255552):
  Calls Tryz.prog 125 #[.pointer (some ⟨b,0,none⟩),.agg #[.int .i64 fa,.int .i64 6,.bool fp,.int .i64 fns,.int .i64 fnr,.slice fq fl fc],.bool cm0] w fun e w'=>XA i b c (agree c fp s) cl own w e w':=by
 have hlt:=h.lt;have hn0:=h.Xp w.heap.size (Nat.le_refl _);have k1:=fun V (hV:Below w.heap.size w V)=>YR (h.later hV) false ⟨0,7,fp,0,0,[]⟩ none 0 (Y6 _) hl
 unfold frV at k1;have K1:=hide k1;clear h k1;go_enter Tryz.func125,Tryz.ntmps125
 go_wp2_with fail
 refine(Xa K1 _ ?_).mono ?_
 ·exact (Below.refl _ w).alloc (Nat.le_refl _) _
 rintro e w1 ⟨rfl,own1,o1,oe1,h1,u1⟩;have HU1:=hide (u1.of ((Below.refl _ w).alloc (Nat.le_refl _) _));obtain⟨y0,y1,y2,y3,y4,y5⟩:=Xt (Qh u1 hn0);have k2:=YG h1 0 3 (by omega) hl2;skip
 have K2:=hide k2;clear h1 u1 K1 k2;go_wp2_with fail
 refine(Xa K2).mono ?_;rintro e w2 ⟨rfl,own2,⟨q2,cm2,o2,ev2,ce2,oe2,h2⟩,u2⟩;have HR:=hide (And.intro h2 ((Xa HU1).trans u2));clear h2 u2 K2 HU1 y0 y1 y2 y3 y4 y5;go_wp2
 go_end0
 exact⟨rfl,_,⟨_,_,_,_,_,_,(Xa HR).1⟩,(Xa HR).2⟩
theorem Xmu (h:TAt w own i b c s cl q cm o ev ce oe)(fa:Int)(fp:Bool)(cm0:Bool)(fns fnr:Int)(fq:Option Addr)(fl fc:Nat)(hl2:s.events.length≤2199023255552):
  Calls Tryz.prog 125 #[.pointer (some ⟨b,0,none⟩),.agg #[.int .i64 fa,.int .i64 8,.bool fp,.int .i64 fns,.int .i64 fnr,.slice fq fl fc],.bool cm0] w fun e w'=>XA i b c (Zi 3 s) cl own w e w':=by
 have hlt:=h.lt;have hn0:=h.Xp w.heap.size (Nat.le_refl _);have k1:=fun V (hV:Below w.heap.size w V)=>YG (h.later hV) 0 3 (by omega) hl2
 skip
 have K1:=hide k1;clear h k1;go_enter Tryz.func125,Tryz.ntmps125
 go_wp2_with fail
 refine(Xa K1 _ ?_).mono ?_
 ·exact (Below.refl _ w).alloc (Nat.le_refl _) _
 rintro e w1 ⟨rfl,own1,⟨q1,cm1,o1,ev1,ce1,oe1,h1⟩,u1⟩;have HU1:=hide (u1.of ((Below.refl _ w).alloc (Nat.le_refl _) _));have HR:=hide (And.intro h1 (Xa HU1));clear h1 u1 K1 HU1;go_wp2
 go_end0
 exact⟨rfl,_,⟨_,_,_,_,_,_,(Xa HR).1⟩,(Xa HR).2⟩
theorem XiZ (h:TAt w own i b c s cl q cm o ev ce oe)(fa:Int)(fk:Int)(fp:Bool)(fns fnr:Int)(fq:Option Addr)(fl fc:Nat)(n5:(fk==5)=false)(n6:(fk==6)=false)(n8:(fk==8)=false)(hl:s.out.length≤2199023255552):
  Calls Tryz.prog 125 #[.pointer (some ⟨b,0,none⟩),.agg #[.int .i64 fa,.int .i64 fk,.bool fp,.int .i64 fns,.int .i64 fnr,.slice fq fl fc],.bool true] w fun e w'=>XA i b c (report c fp s) cl own w e w':=by
 have hlt:=h.lt;have hn0:=h.Xp w.heap.size (Nat.le_refl _);have k1:=fun V (hV:Below w.heap.size w V)=>Xbm (h.later hV) fp hl
 skip
 have K1:=hide k1;clear h k1;go_enter Tryz.func125,Tryz.ntmps125
 go_wp2_with fail
 refine(Xa K1 _ ?_).mono ?_
 ·exact (Below.refl _ w).alloc (Nat.le_refl _) _
 rintro e w1 ⟨rfl,own1,o1,oe1,h1,u1⟩;have HU1:=hide (u1.of ((Below.refl _ w).alloc (Nat.le_refl _) _));have HR:=hide (And.intro h1 (Xa HU1));clear h1 u1 K1 HU1;go_wp2
 go_end0
 exact⟨rfl,_,⟨_,_,_,_,_,_,(Xa HR).1⟩,(Xa HR).2⟩
theorem XeS (h:TAt w own i b c s cl q cm o ev ce oe)(fa:Int)(fk:Int)(fp:Bool)(fns fnr:Int)(fq:Option Addr)(fl fc:Nat)(n5:(fk==5)=false)(n6:(fk==6)=false)(n8:(fk==8)=false):
  Calls Tryz.prog 125 #[.pointer (some ⟨b,0,none⟩),.agg #[.int .i64 fa,.int .i64 fk,.bool fp,.int .i64 fns,.int .i64 fnr,.slice fq fl fc],.bool false] w fun e w'=>XA i b c (s) cl own w e w':=by
 have hlt:=h.lt;have hn0:=h.Xp w.heap.size (Nat.le_refl _);have HZ:Hid (∀ V,Below w.heap.size w V→XA i b c (s) cl own w (.returned (.tuple #[])) V):=fun V hV=>⟨rfl,own,⟨_,_,_,_,_,_,h.later hV⟩,Upd.of hV (Upd.refl _ _ _)⟩
 clear h;go_enter Tryz.func125,Tryz.ntmps125
 go_wp2
 go_end0
 exact Xa HZ _ ((Below.refl _ w).alloc (Nat.le_refl _) _)
end
structure OpV where
 kind:Int
 a:Int
 b:Int
 d:Int
 s:ByteArray
 lv:Value
 f:Fr
 fq:Option Addr
 fc:Nat
 c0:Int
 c1:Int
 c2:Int
 c3:Int
 c4:Int
 c5:Int
def opV (o:OpV):Value:=.agg #[.int .i64 o.kind,.int .i64 o.a,.int .i64 o.b,.int .i64 o.d,.string o.s,o.lv,.int .i64 o.f.a,.int .i64 o.f.k,.bool o.f.p,.int .i64 o.f.ns,.int .i64 o.f.nr,.slice o.fq o.f.info.length o.fc,.int .i64 o.c0,.int .i64 o.c1,.int .i64 o.c2,.int .i64 o.c3,.int .i64 o.c4,.int .i64 o.c5]
def YP (o:OpV):List Value:=[.int .i64 o.kind,.int .i64 o.a,.int .i64 o.b,.int .i64 o.d,.string o.s,o.lv,.int .i64 o.f.a,.int .i64 o.f.k,.bool o.f.p,.int .i64 o.f.ns,.int .i64 o.f.nr,.slice o.fq o.f.info.length o.fc,.int .i64 o.c0,.int .i64 o.c1,.int .i64 o.c2,.int .i64 o.c3,.int .i64 o.c4,.int .i64 o.c5]
theorem Xmz (m k ns nr:Nat)(p:Bool):(Yo m k ns nr p).length≤2:=by
 unfold Yo;split <;> simp
theorem Xei (m:Int)(f:Fr):(XT m f).2.length≤100:=by
 unfold XT;split
 ·simp
 ·split
  ·simp
  ·split
   ·simp
   ·rename_i h
    have h2:=Xmz m.toNat f.k.toNat f.ns.toNat f.nr.toNat f.p
    have h3:f.info.length≤32:=by
     unfold Yc JE at h;by_cases hk1:f.k=1
     ·rw[if_pos hk1]at h;simp at h;omega
     ·rw[if_neg hk1]at h;by_cases hk9:f.k=9
      ·rw[if_pos hk9]at h;by_cases hm8:m=8
       ·rw[if_pos hm8]at h;simp at h;omega
       ·rw[if_neg hm8]at h;simp at h;omega
      ·rw[if_neg hk9]at h;simp at h;simp[h]
    simp;omega
def Xca (wb:Nat)(w:World)(Q:World→Prop):Prop:=∀(V:World) (v:Value) (xs:List Value) (n:Nat),Below w.heap.size w V→V.ownsRow w.heap.size 5 1 v n xs→n≤1048576→Calls Tryz.prog 34 #[.pointer (some ⟨wb,2,none⟩),v] V fun e w'=>e=.returned (.tuple #[])∧Q w'
theorem XaU (wb:Nat)(o:OpV)(lp:Option Addr)(ln lc:Nat)(w:World){Q:World→Prop}(hlv:o.lv=.slice lp ln lc)(h10:o.kind=10)(hsrc:Qn w o.fq o.f.info)(hC:Ctl w)(hBk:Xca wb w Q)(hw0:0<w.heap.size)(hl:o.f.info.length≤1048576):
  Calls Tryz.prog 17 #[.pointer (some ⟨wb,0,none⟩),opV o] w fun e w'=>e=.returned (.bool true)∧Q w':=by
 obtain⟨kind,a,b,d,s,lv,⟨fa,fk,fp,fns,fnr,info⟩,fq,fc,x0,x1,x2,x3,x4,x5⟩:=o;simp only at hlv h10 hsrc hl;subst h10 hlv;unfold opV;simp only;have hb2:∀o1 o2,Below w.heap.size w ((w.alloc o1).alloc o2):=fun o1 o2=>((Below.refl _ w).alloc (Nat.le_refl _) o1).alloc (by simp) o2
 have v1:=fun o1 o2=>(hsrc.below (hb2 o1 o2) (Nat.le_refl _)).conv fc
 have hsz:(⟨info.toArray⟩:ByteArray).size≤1099511627776:=by simp[ByteArray.size];omega
 have HB2:=hide hb2;have HSRC:=hide hsrc;have HC:=hide hC;have HBK:=hide hBk;clear hb2 hsrc hC hBk;go_enter Tryz.func17,Tryz.ntmps17
 go_wp2_with fail
 generalize Value.agg #[.int .i64 10,.int .i64 a,.int .i64 b,.int .i64 d,.string s,.slice lp ln lc,.int .i64 fa,.int .i64 fk,.bool fp,.int .i64 fns,.int .i64 fnr,.slice fq info.length fc,.int .i64 x0,.int .i64 x1,.int .i64 x2,.int .i64 x3,.int .i64 x4,.int .i64 x5]=ov;generalize Value.agg #[.int .i64 fa,.int .i64 fk,.bool fp,.int .i64 fns,.int .i64 fnr,.slice fq info.length fc]=ov2;refine(Xac ⟨info.toArray⟩ b _ hsz).mono ?_;rintro e W3 ⟨p,c,rfl,hlent,hb3⟩;have hsl:(⟨info.toArray⟩:ByteArray).size=info.length:=by simp[ByteArray.size]
 rw[hsl]
 have hO3:W3.heap[w.heap.size]?=some (.cells #[.int .i64 10,.int .i64 a,.int .i64 b,.int .i64 d,.string s,.slice lp ln lc,.int .i64 fa,.int .i64 fk,.bool fp,.int .i64 fns,.int .i64 fnr,.slice fq info.length fc,.int .i64 x0,.int .i64 x1,.int .i64 x2,.int .i64 x3,.int .i64 x4,.int .i64 x5] 34 (0,0)):=by
  rw[hb3.block w.heap.size (by simp;omega)];rw[Below.heap_alloc _ _ _ (by simp)];exact Xg w _
 have hX3:W3.heap[w.heap.size+1]?=some (.cells #[.int .i64 fa,.int .i64 fk,.bool fp,.int .i64 fns,.int .i64 fnr,.slice fq info.length fc] 30 (0,0)):=by
  rw[hb3.block (w.heap.size+1) (by simp)];have:=Xg (w.alloc (.cells #[.int .i64 10,.int .i64 a,.int .i64 b,.int .i64 d,.string s,.slice lp ln lc,.int .i64 fa,.int .i64 fk,.bool fp,.int .i64 fns,.int .i64 fnr,.slice fq info.length fc,.int .i64 x0,.int .i64 x1,.int .i64 x2,.int .i64 x3,.int .i64 x4,.int .i64 x5] 34)) (.cells #[.int .i64 fa,.int .i64 fk,.bool fp,.int .i64 fns,.int .i64 fnr,.slice fq info.length fc] 30);rwa [Xk]at this
 have hz3:w.heap.size+2≤W3.heap.size:=by have:=hb3.size;simp at this;omega
 have hb03:Below w.heap.size w W3:=(Xa HB2 _ _).trans (hb3.mono (by simp;omega));rw[Xc7]at hlent;obtain⟨W4,hW4⟩:∃W4,W4=W3.setCell ⟨w.heap.size+1,5,none⟩ (.slice p info.length c):=⟨_,rfl⟩
 have hX4:W4.heap[w.heap.size+1]?=some (.cells #[.int .i64 fa,.int .i64 fk,.bool fp,.int .i64 fns,.int .i64 fnr,.slice p info.length c] 30 (0,0)):=by
  rw[hW4];exact Xm hX3 _
 have hO4:W4.heap[w.heap.size]?=some (.cells #[.int .i64 10,.int .i64 a,.int .i64 b,.int .i64 d,.string s,.slice lp ln lc,.int .i64 fa,.int .i64 fk,.bool fp,.int .i64 fns,.int .i64 fnr,.slice fq info.length fc,.int .i64 x0,.int .i64 x1,.int .i64 x2,.int .i64 x3,.int .i64 x4,.int .i64 x5] 34 (0,0)):=by
  rw[hW4,Below.heap_setCell _ _ _ _ (by simp)];exact hO3
 have hb04:Below w.heap.size w W4:=by rw[hW4];exact hb03.setCell (by show w.heap.size≤w.heap.size+1;omega) _
 have hz4:W4.heap.size=W3.heap.size:=by rw[hW4];exact size_setCell _ _ _
 have hlent4:Ye W4 (w.heap.size+2) p c ⟨info.toArray⟩:=by
  rcases hlent with h|⟨g,h1,h2,h3,h4⟩
  ·exact .inl h
  ·refine .inr ⟨g,h1,h2,h3,?_⟩;unfold Yu;rw[hW4,Below.heap_setCell _ _ _ _ (by show g≠w.heap.size+1;omega)];exact h4
 have a3:W3.cell? ⟨w.heap.size,1,none⟩=some (.int .i64 a):=by rw[Lib.cell_of_heap hO3];rfl
 have a4:W4.cell? ⟨w.heap.size,1,none⟩=some (.int .i64 a):=by rw[Lib.cell_of_heap hO4];rfl
 have s3:W3.cell? ⟨w.heap.size+1,5,none⟩=some (.slice fq info.length fc):=by rw[Lib.cell_of_heap hX3];rfl
 have sf:∀i,W3.frozen? ⟨w.heap.size+1,i,none⟩=false:=fun i=>Lib.frozen_of_heap hX3 i
 have y0:W4.cell? ⟨w.heap.size+1,0,none⟩=some (.int .i64 fa):=by rw[Lib.cell_of_heap hX4];rfl
 have y1:W4.cell? ⟨w.heap.size+1,1,none⟩=some (.int .i64 fk):=by rw[Lib.cell_of_heap hX4];rfl
 have y2:W4.cell? ⟨w.heap.size+1,2,none⟩=some (.bool fp):=by rw[Lib.cell_of_heap hX4];rfl
 have y3:W4.cell? ⟨w.heap.size+1,3,none⟩=some (.int .i64 fns):=by rw[Lib.cell_of_heap hX4];rfl
 have y4:W4.cell? ⟨w.heap.size+1,4,none⟩=some (.int .i64 fnr):=by rw[Lib.cell_of_heap hX4];rfl
 have y5:W4.cell? ⟨w.heap.size+1,5,none⟩=some (.slice p info.length c):=by rw[Lib.cell_of_heap hX4];rfl
 rw[hW4]at a4 y0 y1 y2 y3 y4 y5;have HH:=hide (And.intro hO4 (And.intro hX4 (And.intro hlent4 (And.intro hb04 hz4))));clear hO3 hX3 hb3 hlent hO4 hX4 hlent4 hb04 hz4 v1 hsl;go_wp2_with fail
 rw[← hW4];clear a3 s3 sf a4 y0 y1 y2 y3 y4 y5;obtain⟨hO4,hX4,hlent4,hb04,hz4⟩:=Xa HH;clear HH;have hw1:=write_any a ⟨fa,fk,fp,fns,fnr,info⟩ p c W4 ((Xa HC).below hb04 (by omega)) (by omega) (by simpa using hlent4.src);unfold frV at hw1;simp only at hw1;refine hw1.mono ?_;clear hw1;generalize hwl:XT a ⟨fa,fk,fp,fns,fnr,info⟩=wl;rintro e W5 ⟨v,rfl,hown,hnil,hb5⟩;generalize Value.agg #[.int .i64 fa,.int .i64 fk,.bool fp,.int .i64 fns,.int .i64 fnr,.slice p info.length c]=ov3;have hO5:=(hb5.block w.heap.size (by omega)).trans hO4;have hX5:=(hb5.block (w.heap.size+1) (by omega)).trans hX4;have hlent5:=hlent4.below hb5
 have hpl:∀i,some i=p.map (·.block)→i<W4.heap.size:=by
  intro i hi;rcases hlent4 with⟨rfl,_⟩|⟨g,rfl,_,_,h4⟩
  ·simp at hi
  ·simp at hi;subst hi;exact h4.lt
 have hb05:Below w.heap.size w W5:=hb04.trans (hb5.mono (by omega));have v5:=((Xa HSRC).below hb05 (Nat.le_refl _)).conv fc;have i5:W5.cell? ⟨w.heap.size,11,none⟩=some (.slice fq info.length fc):=by rw[Lib.cell_of_heap hO5];rfl
 have x5c:W5.cell? ⟨w.heap.size+1,5,none⟩=some (.slice p info.length c):=by rw[Lib.cell_of_heap hX5];rfl
 have hz5:=hb5.size;have HH:=hide (And.intro hO5 (And.intro hlent5 (And.intro hb05 (And.intro hown hnil))));clear hO4 hX4 hlent4 hb04 hb5 hO5 hX5 hlent5 hb05 hown hnil;obtain⟨q1,cp1,rfl⟩:=Q3 (Xa HH).2.2.2.1;go_wp2_with fail
 obtain⟨hO5,hlent5,hb05,hown,hnil⟩:=Xa HH;clear HH v5 i5 x5c;have hsl:info.length=(⟨info.toArray⟩:ByteArray).size:=by simp[ByteArray.size]
 have hwh:=JL hlent5 hsz;rw[← hsl]at hwh;refine hwh.mono ?_;clear hwh hsl;rintro e W6 ⟨rfl,hk6,hp6⟩;dsimp only
 have hz6:=hk6.size;have hO6:=(hk6.block w.heap.size (by omega) (fun hi=>by have:=(hp6 _ hi).1;omega)).trans hO5;have hb06:Below w.heap.size w W6:=⟨hk6.os.trans hb05.os,hk6.tape.trans hb05.tape,hk6.output.trans hb05.output,Nat.le_trans hb05.size hk6.size,fun k hk=>(hk6.block k (by omega) (fun hi=>by have:=(hp6 _ hi).1;omega)).trans (hb05.block k hk)⟩
 have hown6:W6.ownsRow W4.heap.size 5 1 (.slice q1 wl.2.length cp1) wl.2.length (Lib.byteCells wl.2):=by
  rcases hown.2 with h2|⟨g,cap,cur,e1,e2,e3,e4⟩
  ·exact ⟨hown.1,.inl h2⟩
  ·refine ⟨hown.1,.inr ⟨g,cap,cur,e1,e2,?_,e4⟩⟩;rw[hk6.block g (Array.getElem?_eq_some_iff.1 e3).1 (fun hi=> ?_)]
   ·exact e3
   ·have:=hpl g hi;omega
 have o1:W6.cell? ⟨w.heap.size,1,none⟩=some (.int .i64 a):=by rw[Lib.cell_of_heap hO6];rfl
 have o6:W6.cell? ⟨w.heap.size,6,none⟩=some (.int .i64 fa):=by rw[Lib.cell_of_heap hO6];rfl
 have o7:W6.cell? ⟨w.heap.size,7,none⟩=some (.int .i64 fk):=by rw[Lib.cell_of_heap hO6];rfl
 have o8:W6.cell? ⟨w.heap.size,8,none⟩=some (.bool fp):=by rw[Lib.cell_of_heap hO6];rfl
 have o9:W6.cell? ⟨w.heap.size,9,none⟩=some (.int .i64 fns):=by rw[Lib.cell_of_heap hO6];rfl
 have o10:W6.cell? ⟨w.heap.size,10,none⟩=some (.int .i64 fnr):=by rw[Lib.cell_of_heap hO6];rfl
 have o11:W6.cell? ⟨w.heap.size,11,none⟩=some (.slice fq info.length fc):=by rw[Lib.cell_of_heap hO6];rfl
 have hw2:=Xa2 a ⟨fa,fk,fp,fns,fnr,info⟩ fq fc W6 ((Xa HSRC).below hb06 (Nat.le_refl _));unfold frV at hw2;rw[hwl]at hw2;simp only at hw2;have HW2:=hide hw2;clear hw2;have HH:=hide (And.intro hb06 (And.intro hown6 hnil));clear hO5 hlent5 hb05 hown hnil hk6 hp6 hO6 hb06 hown6 hpl;go_wp2_with fail
 obtain⟨hb06,hown6,hnil⟩:=Xa HH;clear HH o1 o6 o7 o8 o9 o10 o11;refine(Xa HW2).mono ?_;clear HW2;rintro e W7 ⟨v2,rfl,hown2,_,hb7⟩;obtain⟨q2,cp2,rfl⟩:=Q3 hown2;have hb07:Below w.heap.size w W7:=hb06.trans (hb7.mono (by omega));have hown7:=ownsRow_below hown6 hb7;have r1:=(Xad hown7 rfl).conv cp1;have r2:=(Xad hown2 rfl).conv cp2;have hq:=Jp q1 wl.2.length cp1;have hlen:wl.2.length≤100:=by rw[← hwl];exact Xei _ _
 have hkb:=Xa HBK _ _ _ _ hb07 (Xw hown7 (by omega)) (by omega)
 have hn:q1.isNone=true∨wl.1=0:=by
  by_cases h:wl.1=0
  ·exact .inr h
  ·have:=hnil h;simp only[Value.slice.injEq]at this;exact .inl (by rw[this.1];rfl)
 have HKB:=hide hkb;have HB7:=hide hb07;clear hkb hb07 hown7 hown2 hown6 hnil hb06 hb7;obtain⟨en,ws⟩:=wl;simp only at hn r1 r2 hq hlen HKB;rcases hn with hn|hn
 ·rw[hn]at hq;go_wp2_with fail
  refine(Xa HKB).mono ?_;rintro e W8 ⟨rfl,hq8⟩;have HF:=hide hq8;clear hq8 HKB;dsimp only
  go_wp2
  exact bodyPost_ret (v:=.bool true) (by simp[results,Tryz.results17,go_sem]) rfl ⟨rfl,Xa HF⟩
 ·subst hn;cases q1 with
  |none=>
   go_wp2_with fail
   refine(Xa HKB).mono ?_;rintro e W8 ⟨rfl,hq8⟩;have HF:=hide hq8;clear hq8 HKB;dsimp only
   go_wp2
   exact bodyPost_ret (v:=.bool true) (by simp[results,Tryz.results17,go_sem]) rfl ⟨rfl,Xa HF⟩
  |some ad=>
   go_wp2_with fail
   refine(Xa HKB).mono ?_;rintro e W8 ⟨rfl,hq8⟩;have HF:=hide hq8;clear hq8 HKB;dsimp only
   go_wp2
   exact bodyPost_ret (v:=.bool true) (by simp[results,Tryz.results17,go_sem]) rfl ⟨rfl,Xa HF⟩
end Go.Proofs.YtkalonhalhdlaaaGreatDoor
