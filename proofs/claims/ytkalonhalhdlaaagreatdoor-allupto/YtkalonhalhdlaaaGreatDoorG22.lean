import Derived.Test.YtkalonhalhdlaaaGreatDoorGRead2
import Derived.Test.YtkalonhalhdlaaaGreatDoorG15
set_option maxHeartbeats 4000000
set_option maxRecDepth 100000
namespace Go.Proofs.YtkalonhalhdlaaaGreatDoor
open Go.RowKit
theorem YQ (m:Int)(p:Option Addr)(c:Nat)(l:List UInt8)(w:World)(hsrc:XU w p l)(hl:l.length≤1048576)(hc:l.length≤c):
  Calls Tryz.prog 36 #[.int .i64 m,.slice p l.length c] w fun e w'=>∃q cp,e=.returned (.tuple #[.agg #[.int .i64 (Xi m l).2.a,.int .i64 (Xi m l).2.k,.bool (Xi m l).2.p,.int .i64 (Xi m l).2.ns,.int .i64 (Xi m l).2.nr,.slice q (Xi m l).2.info.length cp],.int .i64 ((Xi m l).1:Nat)])∧w'.ownsRow w.heap.size 5 1 (.slice q (Xi m l).2.info.length cp) (Xi m l).2.info.length (Lib.byteCells (Xi m l).2.info)∧((Xi m l).1≠0→q=none)∧Below w.heap.size w w':=by
 have fin:∀(e:Nat),e≠0→Xi m l=(e,ZK)→(Calls Tryz.prog 36 #[.int .i64 m,.slice p l.length c] w fun r w'=>r=.returned (.tuple #[frZ,.int .i64 (e:Nat)])∧Below w.heap.size w w')→Calls Tryz.prog 36 #[.int .i64 m,.slice p l.length c] w fun e w'=>∃q cp,e=.returned (.tuple #[.agg #[.int .i64 (Xi m l).2.a,.int .i64 (Xi m l).2.k,.bool (Xi m l).2.p,.int .i64 (Xi m l).2.ns,.int .i64 (Xi m l).2.nr,.slice q (Xi m l).2.info.length cp],.int .i64 ((Xi m l).1:Nat)])∧w'.ownsRow w.heap.size 5 1 (.slice q (Xi m l).2.info.length cp) (Xi m l).2.info.length (Lib.byteCells (Xi m l).2.info)∧((Xi m l).1≠0→q=none)∧Below w.heap.size w w':=by
  intro e _ he hcall;rw[he];refine hcall.mono ?_;rintro r w' ⟨rfl,hb⟩;exact⟨none,0,rfl,World.ownsRow_nil _ _ _ _,fun _=>rfl,hb⟩
 cases hm:XP m with
 |false=>exact fin 1 (by omega) (by simp[Xi,XK,hm]) (Xib m _ w hm)
 |true=>
  match l,hsrc,hl,hc,fin with
  | [],hsrc,hl,hc,fin=>exact fin 2 (by omega) (by simp[Xi,XK,hm]) (Xic m p c w hm)
  |x::r,.inl h,_,_,_=>exact absurd h.2 (by simp)
  |x::r,.inr ⟨b,off,hp,hb,hseg⟩,hl,hc,fin=>
   subst hp;have hx:=hseg 0 (by simp);simp only[Nat.add_zero,List.getD_cons_zero]at hx;cases ha:XL x.toNat with
   |false=>exact fin 3 (by omega) (by simp[Xi,XK,hm,ha]) (Xg9 m b off _ c x w hm (by simp) hx hb ha)
   |true=>
    match r,hseg,hl,hc,fin with
    | [],hseg,hl,hc,fin=>exact fin 2 (by omega) (by simp[Xi,XK,hm,ha]) (Xid m b off c x w hm hx hb ha)
    |y::r,hseg,hl,hc,fin=>
     obtain⟨m',rfl,hm'⟩:=JI hm;exact Xie m' b off c x y r w hm' ha hseg hb (by simp at hl;omega) (by simpa using hc)
theorem Xlr (m:Int)(l:List UInt8):(Xi m l).2.info.length≤l.length:=by
 unfold Xi;dsimp only
 split
 ·simp[ZK]
 ·split
  ·simp[ZK]
  ·split
   ·simp[ZK]
   ·simp
theorem Xbd (wb:Nat)(o:OpV)(lp:Option Addr)(ln lc:Nat)(w:World){Q:World→Prop}(hlv:o.lv=.slice lp ln lc)(h11:o.kind=11)(hC:Ctl w)(hBk:Xca wb w Q)(hw0:0<w.heap.size)(hl:o.s.size≤1048576):
  Calls Tryz.prog 17 #[.pointer (some ⟨wb,0,none⟩),opV o] w fun e w'=>e=.returned (.bool true)∧Q w':=by
 obtain⟨kind,a,b,d,s,lv,⟨fa,fk,fp,fns,fnr,info⟩,fq,fc,x0,x1,x2,x3,x4,x5⟩:=o;simp only at hlv h11 hl;subst h11 hlv;unfold opV;simp only;have HC:=hide hC;have HBK:=hide hBk;clear hC hBk;go_enter Tryz.func17,Tryz.ntmps17
 go_wp2_with fail
 generalize Value.agg #[.int .i64 11,.int .i64 a,.int .i64 b,.int .i64 d,.string s,.slice lp ln lc,.int .i64 fa,.int .i64 fk,.bool fp,.int .i64 fns,.int .i64 fnr,.slice fq info.length fc,.int .i64 x0,.int .i64 x1,.int .i64 x2,.int .i64 x3,.int .i64 x4,.int .i64 x5]=ov;have hO1:=Xg w (.cells #[.int .i64 11,.int .i64 a,.int .i64 b,.int .i64 d,.string s,.slice lp ln lc,.int .i64 fa,.int .i64 fk,.bool fp,.int .i64 fns,.int .i64 fnr,.slice fq info.length fc,.int .i64 x0,.int .i64 x1,.int .i64 x2,.int .i64 x3,.int .i64 x4,.int .i64 x5] 34);have hb01:=(Below.refl _ w).alloc (Nat.le_refl _) (.cells #[.int .i64 11,.int .i64 a,.int .i64 b,.int .i64 d,.string s,.slice lp ln lc,.int .i64 fa,.int .i64 fk,.bool fp,.int .i64 fns,.int .i64 fnr,.slice fq info.length fc,.int .i64 x0,.int .i64 x1,.int .i64 x2,.int .i64 x3,.int .i64 x4,.int .i64 x5] 34);have hz1:=Xk w (.cells #[.int .i64 11,.int .i64 a,.int .i64 b,.int .i64 d,.string s,.slice lp ln lc,.int .i64 fa,.int .i64 fk,.bool fp,.int .i64 fns,.int .i64 fnr,.slice fq info.length fc,.int .i64 x0,.int .i64 x1,.int .i64 x2,.int .i64 x3,.int .i64 x4,.int .i64 x5] 34);generalize hW1:w.alloc (.cells #[.int .i64 11,.int .i64 a,.int .i64 b,.int .i64 d,.string s,.slice lp ln lc,.int .i64 fa,.int .i64 fk,.bool fp,.int .i64 fns,.int .i64 fnr,.slice fq info.length fc,.int .i64 x0,.int .i64 x1,.int .i64 x2,.int .i64 x3,.int .i64 x4,.int .i64 x5] 34)=W1 at hO1 hb01 hz1;clear hW1;refine(Xac s b W1 (by omega)).mono ?_;rintro e W2 ⟨p,c,rfl,hlent,hb2⟩;dsimp only
 have hO2:=(hb2.block w.heap.size (by omega)).trans hO1;have hb02:Below w.heap.size w W2:=hb01.trans (hb2.mono (by omega));have hz2:=hb2.size;have hsl:s.data.toList.length=s.size:=by simp
 have hrd:=Xg5 a p c s.data.toList W2 hlent.src ((Xa HC).below hb02 (by omega)) (by omega) (by omega) (by have:=hlent.cap;omega) (by have:=hlent.cap;omega);rw[hsl]at hrd;have hrl:(Xi a s.data.toList).2.info.length≤s.size:=by rw[← hsl];exact Xlr _ _
 generalize hrr:Xi a s.data.toList=rr at hrd hrl;obtain⟨er,⟨ra,rk,rp,rns,rnr,ri⟩⟩:=rr;simp only at hrd hrl;have o1:W2.cell? ⟨w.heap.size,1,none⟩=some (.int .i64 a):=by rw[Lib.cell_of_heap hO2];rfl
 have HRD:=hide hrd;have HH:=hide (And.intro hO2 (And.intro hb02 hlent));clear hO1 hb01 hb2 hO2 hb02 hlent hrd hsl;go_wp2_with fail
 refine(Xa HRD).mono ?_;clear HRD o1;rintro e W3 ⟨q1,cp1,rfl,hown,hnil,hb3⟩;dsimp only
 go_upto_region 12 with fail
 obtain⟨hO2,hb02,hlent⟩:=Xa HH;clear HH;have hz3:=hb3.size;have hO3:=(hb3.block w.heap.size (by omega)).trans hO2;have hb03:Below w.heap.size w W3:=hb02.trans (hb3.mono (by omega));have hA4:=Xg W3 (.cells #[.int .i64 ra,.int .i64 rk,.bool rp,.int .i64 rns,.int .i64 rnr,.slice q1 ri.length cp1] 30);have hz4:=Xk W3 (.cells #[.int .i64 ra,.int .i64 rk,.bool rp,.int .i64 rns,.int .i64 rnr,.slice q1 ri.length cp1] 30);have hb34:=(Below.refl W3.heap.size W3).alloc (Nat.le_refl _) (.cells #[.int .i64 ra,.int .i64 rk,.bool rp,.int .i64 rns,.int .i64 rnr,.slice q1 ri.length cp1] 30);generalize hW4:W3.alloc (.cells #[.int .i64 ra,.int .i64 rk,.bool rp,.int .i64 rns,.int .i64 rnr,.slice q1 ri.length cp1] 30)=W4 at hA4 hz4 hb34;clear hW4;have hO4:=(hb34.block w.heap.size (by omega)).trans hO3;have hb04:Below w.heap.size w W4:=hb03.trans (hb34.mono (by omega));have hlent4:=(hlent.below hb3).below hb34
 have hpl:∀i,some i=p.map (·.block)→i<W2.heap.size:=by
  intro i hi;rcases hlent with⟨rfl,_⟩|⟨g,rfl,_,_,h4⟩
  ·simp at hi
  ·simp at hi;subst hi;exact h4.lt
 have hown4:=ownsRow_below hown hb34;have hwh:=JL hlent4 (by omega);rw[hz1]at hwh;have s4:W4.cell? ⟨w.heap.size,4,none⟩=some (.string s):=by rw[Lib.cell_of_heap hO4];rfl
 have HWH:=hide hwh;have HH:=hide (And.intro hO4 (And.intro hA4 (And.intro hb04 (And.intro hpl (And.intro hown4 hnil)))));clear hO2 hb02 hlent hO3 hb03 hA4 hb34 hO4 hb04 hlent4 hpl hown hown4 hnil hb3 hwh;go_wp2_with fail
 refine(Xa HWH).mono ?_;clear HWH s4;rintro e W5 ⟨rfl,hk5,hp5⟩;dsimp only
 obtain⟨hO4,hA4,hb04,hpl,hown4,hnil⟩:=Xa HH;clear HH;have hz5:=hk5.size;have nX:∀k,k≤w.heap.size→¬some k=p.map (·.block):=fun k hk hi=>by have:=(hp5 _ hi).1;omega
 have hO5:=(hk5.block w.heap.size (by omega) (nX _ (Nat.le_refl _))).trans hO4;have hA5:=(hk5.block W3.heap.size (by omega) (fun hi=>by have:=hpl _ hi;omega)).trans hA4;have hb05:Below w.heap.size w W5:=⟨hk5.os.trans hb04.os,hk5.tape.trans hb04.tape,hk5.output.trans hb04.output,Nat.le_trans hb04.size hk5.size,fun k hk=>(hk5.block k (by omega) (nX _ (by omega))).trans (hb04.block k hk)⟩
 have hown5:W5.ownsRow W2.heap.size 5 1 (.slice q1 ri.length cp1) ri.length (Lib.byteCells ri):=by
  rcases hown4.2 with h2|⟨g,cap,cur,e1,e2,e3,e4⟩
  ·exact ⟨hown4.1,.inl h2⟩
  ·refine ⟨hown4.1,.inr ⟨g,cap,cur,e1,e2,?_,e4⟩⟩;rw[hk5.block g (Array.getElem?_eq_some_iff.1 e3).1 (fun hi=> ?_)]
   ·exact e3
   ·have:=hpl g hi;omega
 have hcv:=Q8 W5 s;have hbW:=bytesWorld_below W5 s;have hsW:=ZC W5 s;have hG1:=grownCap_ge W5 s.size 0 5;have hzW:=Lib.bytesWorld_size W5 5 s;generalize grownCap W5 s.size 0 5=gc at hcv hG1;generalize Lib.bytesWorld W5 5 s=W6 at hcv hbW hsW hzW;have hb06:=hb05.trans (hbW.mono (by omega));have hA6:=(hbW.block W3.heap.size (by omega)).trans hA5;have hown6:=ownsRow_below hown5 hbW;have hsl:s.data.toList.length=s.size:=by simp
 have hrd:=YQ a (some ⟨W5.heap.size,0,none⟩) gc s.data.toList W6 (.inr ⟨_,_,rfl,by omega,hsW⟩) (by omega) (by omega);rw[hsl,hrr]at hrd;simp only at hrd;clear hsl;have o1:W5.cell? ⟨w.heap.size,1,none⟩=some (.int .i64 a):=by rw[Lib.cell_of_heap hO5];rfl
 have s5:W5.cell? ⟨w.heap.size,4,none⟩=some (.string s):=by rw[Lib.cell_of_heap hO5];rfl
 have HRD:=hide hrd;have HH:=hide (And.intro hA6 (And.intro hb06 (And.intro hown6 hnil)));clear hO4 hA4 hb04 hpl hown4 hnil hO5 hA5 hb05 hown5 hb06 hA6 hown6 hrd hbW hsW hk5 hp5 nX;go_wp2_with fail
 refine(Xa HRD).mono ?_;clear HRD o1 s5 hcv;rintro e W7 ⟨q2,cp2,rfl,hown2,_,hb7⟩;dsimp only
 go_upto_region 14 with fail
 obtain⟨hA6,hb06,hown6,hnil⟩:=Xa HH;clear HH;have hz7:=hb7.size;have hA7:=(hb7.block W3.heap.size (by omega)).trans hA6;have hb07:Below w.heap.size w W7:=hb06.trans (hb7.mono (by omega));have hown7:=ownsRow_below hown6 hb7;have hC8:=Xg W7 (.cells #[.int .i64 ra,.int .i64 rk,.bool rp,.int .i64 rns,.int .i64 rnr,.slice q2 ri.length cp2] 30);have hz8:=Xk W7 (.cells #[.int .i64 ra,.int .i64 rk,.bool rp,.int .i64 rns,.int .i64 rnr,.slice q2 ri.length cp2] 30);have hb78:=(Below.refl W7.heap.size W7).alloc (Nat.le_refl _) (.cells #[.int .i64 ra,.int .i64 rk,.bool rp,.int .i64 rns,.int .i64 rnr,.slice q2 ri.length cp2] 30);generalize hW8:W7.alloc (.cells #[.int .i64 ra,.int .i64 rk,.bool rp,.int .i64 rns,.int .i64 rnr,.slice q2 ri.length cp2] 30)=W8 at hC8 hz8 hb78;clear hW8;have hA8:=(hb78.block W3.heap.size (by omega)).trans hA7;have hb08:Below w.heap.size w W8:=hb07.trans (hb78.mono (by omega));have hown8:=ownsRow_below hown7 hb78;have hown28:=ownsRow_below hown2 hb78;have hsm:=XeF ⟨ra,rk,rp,rns,rnr,ri⟩ q1 q2 cp1 cp2 W8 (Xad hown8 rfl) (Xad hown28 rfl);unfold frV at hsm;simp only at hsm;have y0:W8.cell? ⟨W3.heap.size,0,none⟩=some (.int .i64 ra):=by rw[Lib.cell_of_heap hA8];rfl
 have y1:W8.cell? ⟨W3.heap.size,1,none⟩=some (.int .i64 rk):=by rw[Lib.cell_of_heap hA8];rfl
 have y2:W8.cell? ⟨W3.heap.size,2,none⟩=some (.bool rp):=by rw[Lib.cell_of_heap hA8];rfl
 have y3:W8.cell? ⟨W3.heap.size,3,none⟩=some (.int .i64 rns):=by rw[Lib.cell_of_heap hA8];rfl
 have y4:W8.cell? ⟨W3.heap.size,4,none⟩=some (.int .i64 rnr):=by rw[Lib.cell_of_heap hA8];rfl
 have y5:W8.cell? ⟨W3.heap.size,5,none⟩=some (.slice q1 ri.length cp1):=by rw[Lib.cell_of_heap hA8];rfl
 have c0:W8.cell? ⟨W7.heap.size,0,none⟩=some (.int .i64 ra):=by rw[Lib.cell_of_heap hC8];rfl
 have c1:W8.cell? ⟨W7.heap.size,1,none⟩=some (.int .i64 rk):=by rw[Lib.cell_of_heap hC8];rfl
 have c2:W8.cell? ⟨W7.heap.size,2,none⟩=some (.bool rp):=by rw[Lib.cell_of_heap hC8];rfl
 have c3:W8.cell? ⟨W7.heap.size,3,none⟩=some (.int .i64 rns):=by rw[Lib.cell_of_heap hC8];rfl
 have c4:W8.cell? ⟨W7.heap.size,4,none⟩=some (.int .i64 rnr):=by rw[Lib.cell_of_heap hC8];rfl
 have c5:W8.cell? ⟨W7.heap.size,5,none⟩=some (.slice q2 ri.length cp2):=by rw[Lib.cell_of_heap hC8];rfl
 have HSM:=hide hsm;have HH:=hide (And.intro hA8 (And.intro hb08 (And.intro hown8 hnil)));clear hA6 hb06 hown6 hnil hA7 hb07 hown7 hC8 hb78 hA8 hb08 hown8 hown28 hown2 hb7 hsm;go_wp2_with fail
 refine(Xa HSM).mono ?_;clear HSM y0 y1 y2 y3 y4 y5 c0 c1 c2 c3 c4 c5;rintro e W9 ⟨rfl,hb9⟩;dsimp only
 generalize Value.agg #[.int .i64 ra,.int .i64 rk,.bool rp,.int .i64 rns,.int .i64 rnr,.slice q1 ri.length cp1]=ov1;generalize Value.agg #[.int .i64 ra,.int .i64 rk,.bool rp,.int .i64 rns,.int .i64 rnr,.slice q2 ri.length cp2]=ov2;obtain⟨hA8,hb08,hown8,hnil⟩:=Xa HH;clear HH;have hA9:=(hb9.block W3.heap.size (by omega)).trans hA8;have hb09:Below w.heap.size w W9:=hb08.trans (hb9.mono (by omega));have hown9:=ownsRow_below hown8 hb9;have z5:W9.cell? ⟨W3.heap.size,5,none⟩=some (.slice q1 ri.length cp1):=by rw[Lib.cell_of_heap hA9];rfl
 have hq:=Jp q1 ri.length cp1
 have hn:q1.isNone=true∨er=0:=by
  by_cases h:er=0
  ·exact .inr h
  ·exact .inl (by rw[hnil h];rfl)
 have hkb:Calls Tryz.prog 34 #[.pointer (some ⟨wb,2,none⟩),.slice q1 ri.length cp1] W9.drew fun e w'=>e=.returned (.tuple #[])∧Q w':=by
  have hdn:Below W9.heap.size W9 W9.drew:=(Below.refl _ _).drew;have hb0n:=hb09.trans (hdn.mono hb09.size);exact Xa HBK _ _ _ _ hb0n (Xw (ownsRow_below hown9 hdn) (by omega)) (by omega)
 have HKB:=hide hkb;clear hkb hA8 hb08 hown8 hnil hA9 hb09 hown9 hb9;rcases hn with hn|hn
 ·rw[hn]at hq;go_upto_region 16 with fail
  go_region_with (go_at_call 34;refine(Xa HKB).mono ?_;rintro e W10 ⟨rfl,hq8⟩;have HF:=hide hq8;clear hq8)
  all_goals
   go_wp2
   exact bodyPost_ret (v:=.bool true) (by simp[results,Tryz.results17,go_sem]) rfl ⟨rfl,Xa HF⟩
 ·subst hn;cases q1 with
  |none=>
   go_upto_region 16 with fail
   go_region_with (go_at_call 34;refine(Xa HKB).mono ?_;rintro e W10 ⟨rfl,hq8⟩;have HF:=hide hq8;clear hq8)
   all_goals
    go_wp2
    exact bodyPost_ret (v:=.bool true) (by simp[results,Tryz.results17,go_sem]) rfl ⟨rfl,Xa HF⟩
  |some ad=>
   go_upto_region 16 with fail
   go_region_with (go_at_call 34;refine(Xa HKB).mono ?_;rintro e W10 ⟨rfl,hq8⟩;have HF:=hide hq8;clear hq8)
   all_goals
    go_wp2
    exact bodyPost_ret (v:=.bool true) (by simp[results,Tryz.results17,go_sem]) rfl ⟨rfl,Xa HF⟩
structure Jv (w:World)(o:OpV):Prop where
 lv:∃lp ln lc,o.lv=.slice lp ln lc
 src:Qn w o.fq o.f.info
 fl:o.f.info.length≤1048576
 sl:o.s.size≤1048576
theorem Jv.below {w w':World}{o:OpV}(h:Jv w o){B:Nat}(hb:Below B w w')(hB:w.heap.size≤B):Jv w' o:=⟨h.lv,h.src.below hb hB,h.fl,h.sl⟩
end Go.Proofs.YtkalonhalhdlaaaGreatDoor
