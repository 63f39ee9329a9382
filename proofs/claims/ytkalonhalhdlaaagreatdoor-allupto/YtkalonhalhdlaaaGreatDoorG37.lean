import Derived.Test.YtkalonhalhdlaaaGreatDoorG35
import Derived.Test.YtkalonhalhdlaaaGreatDoorTNew
set_option maxHeartbeats 8000000
set_option maxRecDepth 1000000
namespace Go.Proofs.YtkalonhalhdlaaaGreatDoor
open Go.RowKit
theorem Xn0 {m win tim tri room addr:Int}(h:Qi m win tim tri room addr=true):∃c:Cfg,c.ok∧m=c.m∧win=c.win∧tim=c.tim∧tri=c.tri∧room=c.room∧addr=c.addr:=by
 unfold Qi QA XP XL at h;simp only[Bool.and_eq_true,Bool.or_eq_true,decide_eq_true_eq]at h;obtain⟨h1,⟨h2,h3⟩,h4,⟨h5,h6⟩,⟨h7,h8⟩,⟨h9,h10⟩,h11⟩:=h;exact⟨⟨m.toNat,win.toNat,tim.toNat,tri.toNat,room.toNat,addr.toNat⟩,⟨by simp only;omega,by simp only;omega,by simp only;omega,by simp only;omega,by simp only;omega,by simp only;omega,by simp only;omega,by simp only;omega,by simp only;omega,by simp only;omega,by simp only;omega⟩,by simp only;omega,by simp only;omega,by simp only;omega,by simp only;omega,by simp only;omega,by simp only;omega⟩
section
variable {B:Nat}{w W:World}{wb:Nat}{own own2:Nat→Nat}{ss:Value}{x:Lw}{ps:List Post}
theorem Xx.owned (h:Xx B w wb own ss x ps)(hb:Below w.heap.size w W)(ho:∀k,k<w.heap.size→own2 k=own k)(hn:∀k,W.heap.size≤k→own2 k=0):Xx B W wb own2 ss x ps:=by
 have hpos:=h.pos;have htop:=h.top;have h0:own2 0=0:=(ho 0 (by omega)).trans h.XC;have hg:=h.later hb;refine⟨hg.lw,hg.row,fun n p hp=>(h.st n p hp).beside (X:=fun _=>False) (Xb.of hb) (fun _ hx=>absurd hx id) id (fun k hk _=>ho k hk) h0 hn,fun n p hp=>(h.rt n p hp).beside (X:=fun _=>False) (Xb.of hb) (fun _ hx=>absurd hx id) (fun k hk _=>ho k hk) h0 hn,h.ok,fun k hk hx=> ?_,h.loS,fun k hk=> ?_,h0,hn,hg.ctl,h.pos,hg.top⟩
 ·have hl:=(h.below hx).2;exact h.free k (by rw[← ho k hl];exact hk) hx
 ·by_cases hl:k<w.heap.size
  ·exact h.lo k (by rw[← ho k hl];exact hk)
  ·omega
theorem XmW {N:Nat}{ss':Value}{np:Post}{y:World}(h:Xx B W wb own ss x ps)(hS:Stn W own (2*ps.length) np.pb np.c np.s np.cl)(hT:Ttn W own (2*ps.length+1) np.rb np.c np.t np.dl)(hok:np.s.ok np.c∧np.t.ok np.c)
  (hown:y.ownsRow 0 56 2 ss' (ps.length+1) (X7 ps++X7 [np])) (hg:W.grownBy y ss.ownBlock) (hb':ss'.ownBlock=ss.ownBlock∨ss'.ownBlock=some N) (hN:W.heap.size≤N):
  Xx B (y.setCell ⟨wb,1,none⟩ ss') wb own ss' x (ps++[np])∧Below B W (y.setCell ⟨wb,1,none⟩ ss'):=by
 have hG:=Xb.grown hg;have hpos:=h.pos;have htop:=h.top
 have hnot:∀ {k:Nat} {c:Array Value} {t:TypeId} {fz:Nat×Nat},W.heap[k]?=some (.cells c t fz)→t≠56→¬some k=ss.ownBlock:=by
  intro k c t fz hc ht hk;obtain⟨c2,hc2⟩:=Xd h.row hk.symm;rw[hc]at hc2;simp only[Option.some.injEq,Obj.cells.injEq]at hc2;exact ht hc2.2.1
 have hnb:∀k,x.b.blk k→¬some k=ss.ownBlock:=fun k hk=>by
  obtain⟨c,t,hc,ht⟩:=h.lw.bk.ty hk;refine hnot hc (fun e=> ?_);subst e;revert ht
  unfold ZW;decide
 have hne:∀e∈x.es,∀k,e.blk k→¬some k=ss.ownBlock:=fun e he k hk=>by
  obtain⟨c,t,hc,ht⟩:=(h.lw.ears e he).ty hk;refine hnot hc (fun e=> ?_);subst e;revert ht
  unfold QP;decide
 have hnh:∀k,x.hs.ownBlock=some k→¬some k=ss.ownBlock:=fun k hk=>by
  obtain⟨c,hc⟩:=Xd h.lw.row hk;exact hnot hc (by decide)
 have hnw:¬some wb=ss.ownBlock:=hnot h.lw.bk.head (by decide);have hbk:YY y wb x.hs ss x.b:=h.lw.bk.turned hG hnw hnb;have kS:Xb (· =wb) y (y.setCell ⟨wb,1,none⟩ ss'):=(Xb.refl _ y).setB _ _
 have hwn:∀ {k:Nat} {c:Array Value} {t:TypeId} {fz:Nat×Nat},y.heap[k]?=some (.cells c t fz)→t≠45→¬k=wb:=by
  intro k c t fz hc ht hk;have h3:=hbk.head;unfold WAt at h3;rw[hk,h3]at hc;simp only[Option.some.injEq,Obj.cells.injEq]at hc;exact ht hc.2.1.symm
 have kA:Xb (fun k=>k=wb∨some k=ss.ownBlock) W (y.setCell ⟨wb,1,none⟩ ss'):=
  ⟨kS.os.trans hG.os,kS.tape.trans hG.tape,kS.output.trans hG.output,Nat.le_trans hG.size kS.size,fun k hk hx=>(kS.block k (Nat.lt_of_lt_of_le hk hG.size) (fun e=>hx (.inl e))).trans (hG.block k hk (fun e=>hx (.inr e)))⟩
 have hx0:∀k,(k=wb∨some k=ss.ownBlock)→own k=0∧B≤k:=by
  rintro k (rfl|hk)
  ·exact ⟨h.XcJ (.inl (.inl rfl)),h.lw.lo⟩
  ·exact ⟨h.XcJ (.inr (.inr hk.symm)),h.loS k hk.symm⟩
 have hX0:¬(0=wb∨some 0=ss.ownBlock):=fun e=>by have:=(hx0 0 e).2;omega
 have hxt:∀i k,(k=wb∨some k=ss.ownBlock)→∀p,p<5→own k≠tg i p:=fun i k hX p _ e=>Xq i p (e.symm.trans (hx0 k hX).1)
 have hn:∀k,(y.setCell ⟨wb,1,none⟩ ss').heap.size≤k→own k=0:=fun k hs=>h.Xp k (Nat.le_trans kA.size hs)
 have hst:∀ {i b:Nat} {c:Cfg} {s:St} {cl:Bool},Stn W own i b c s cl→Stn (y.setCell ⟨wb,1,none⟩ ss') own i b c s cl:=fun hh=>hh.beside kA (hxt _) hX0 (fun _ _ _=>rfl) h.XC hn
 have hrt:∀ {i b:Nat} {c:Cfg} {s:St} {cl:Bool},Ttn W own i b c s cl→Ttn (y.setCell ⟨wb,1,none⟩ ss') own i b c s cl:=fun hh=>hh.beside kA (hxt _) (fun _ _ _=>rfl) h.XC hn
 have hss:∀k,ss'.ownBlock=some k→ss.ownBlock=some k∨W.heap.size≤k:=by
  intro k hk;rcases hb' with e|e
  ·exact .inl (e▸hk)
  ·exact .inr ((Option.some.inj (e.symm.trans hk))▸hN)
 refine⟨⟨⟨hbk.heads kS (by have:=hbk.head.set 1 ss';exact this),?_,?_,h.lw.apart,h.lw.lo,h.lw.loH,h.lw.loB,h.lw.loE⟩,?_,?_,?_,?_,?_,?_,h.lo,h.XC,hn,h.ctl.keeps kA (by omega) hX0,h.pos,Nat.le_trans htop kA.size⟩,⟨kA.os,kA.tape,kA.output,kA.size,fun k hk=>kA.block k (by omega) (fun hX=>by have:=(hx0 k hX).2;omega)⟩⟩
 ·refine Xc h.lw.row kA ?_;rintro k hk (e|e)
  ·obtain ⟨c,hc⟩:=Xd h.lw.row hk;have h3:=h.lw.bk.head;unfold WAt at h3;rw[← e,hc]at h3;simp at h3
  ·exact hnh k hk e
 ·intro e he;refine(h.lw.ears e he).turned kA ?_;rintro k hk (rfl|hh)
  ·have hhd:=h.lw.bk.head;unfold WAt at hhd;exact(h.lw.ears e he).not hhd (by unfold QP;decide) hk
  ·exact hne e he k hk hh
 ·rw[List.length_append,Xdk];refine Xc hown kS (fun k hk=> ?_);obtain⟨c,hc⟩:=Xd hown hk;exact hwn hc (by decide)
 ·intro n p hp;by_cases hl:n<ps.length
  ·rw[List.getElem?_append_left hl]at hp;exact hst (h.st n p hp)
  ·rw[List.getElem?_append_right (by omega)]at hp
   have hz:n-ps.length=0:=by
    have:=(List.getElem?_eq_some_iff.1 hp).1;simp at this;omega
   rw[hz]at hp;simp at hp;subst hp;have:n=ps.length:=by omega
   subst this;exact hst hS
 ·intro n p hp;by_cases hl:n<ps.length
  ·rw[List.getElem?_append_left hl]at hp;exact hrt (h.rt n p hp)
  ·rw[List.getElem?_append_right (by omega)]at hp
   have hz:n-ps.length=0:=by
    have:=(List.getElem?_eq_some_iff.1 hp).1;simp at this;omega
   rw[hz]at hp;simp at hp;subst hp;have:n=ps.length:=by omega
   subst this;exact hrt hT
 ·intro p hp;rcases List.mem_append.1 hp with hp|hp
  ·exact h.ok p hp
  ·simp at hp;subst hp;exact hok
 ·rintro k hk (hx|hx|hx)
  ·exact h.free k hk (.inl hx)
  ·exact h.free k hk (.inr (.inl hx))
  ·rcases hss k hx with e|e
   ·exact h.free k hk (.inr (.inr e))
   ·exact hk (h.Xp k e)
 ·intro k hx;rcases hss k hx with e|e
  ·exact h.loS k e
  ·omega
theorem Xlo {y:World}(h:Xx B W wb own ss x ps)(hg:W.grownBy y ss.ownBlock):WAt y wb #[x.hs,ss,x.b.bs,x.b.fs,x.b.ls,x.b.is]:=by
 refine h.lw.bk.head.keeps (Xb.grown hg) (fun hk=> ?_);obtain⟨c2,hc2⟩:=Xd h.row hk.symm;have h3:=h.lw.bk.head;unfold WAt at h3;rw[hc2]at h3;simp at h3
end
theorem XmQ:(Tryz.prog.info? 56).map (fun i=>(i.zero,i.size,i.bytes))=some (some (.agg #[.pointer none,.pointer none]),2,16):=by kernel_rfl
def Made (B:Nat)(w:World)(wb:Nat)(x:Lw)(ps:List Post)(w':World):Prop:=
 ∃own' ss' ps',Xx B w' wb own' ss' x ps'∧(ps'=ps∨∃np:Post,ps'=ps++[np]∧np.even∧np.s=St.fresh∧np.c.ok)∧Below B w w'
theorem Xoe {B:Nat}{w:World}{wb:Nat}{own:Nat→Nat}{ss:Value}{x:Lw}{ps:List Post}(h:Xx B w wb own ss x ps)(o:OpV)(hlv:∃lp ln lc,o.lv=.slice lp ln lc)(hc:Qi o.c0 o.c1 o.c2 o.c3 o.c4 o.c5=false):
  Calls Tryz.prog 18 #[.pointer (some ⟨wb,0,none⟩),opV o] w fun e w'=>e=.returned (.bool true)∧Made B w wb x ps w':=by
 obtain⟨lp,ln,lc,hlv⟩:=hlv;obtain⟨kind,a,b,d,s,lv,⟨fa,fk,fp,fns,fnr,info⟩,fq,fc,x0,x1,x2,x3,x4,x5⟩:=o;simp only at hlv hc;subst hlv;unfold opV;simp only;have K1:=hide (fun V=>XoT x0 x1 x2 x3 x4 x5 V hc);have K2:=hide (fun V=>Xoy x0 x1 x2 x3 x4 x5 V hc);have HX:=hide h;have htop:=h.top;clear h hc;have hA0:=Xg w (.cells #[.int .i64 kind,.int .i64 a,.int .i64 b,.int .i64 d,.string s,.slice lp ln lc,.int .i64 fa,.int .i64 fk,.bool fp,.int .i64 fns,.int .i64 fnr,.slice fq info.length fc,.int .i64 x0,.int .i64 x1,.int .i64 x2,.int .i64 x3,.int .i64 x4,.int .i64 x5] 34);have hbA:=(Below.refl w.heap.size w).alloc (Nat.le_refl _) (.cells #[.int .i64 kind,.int .i64 a,.int .i64 b,.int .i64 d,.string s,.slice lp ln lc,.int .i64 fa,.int .i64 fk,.bool fp,.int .i64 fns,.int .i64 fnr,.slice fq info.length fc,.int .i64 x0,.int .i64 x1,.int .i64 x2,.int .i64 x3,.int .i64 x4,.int .i64 x5] 34);have hzA:=Xk w (.cells #[.int .i64 kind,.int .i64 a,.int .i64 b,.int .i64 d,.string s,.slice lp ln lc,.int .i64 fa,.int .i64 fk,.bool fp,.int .i64 fns,.int .i64 fnr,.slice fq info.length fc,.int .i64 x0,.int .i64 x1,.int .i64 x2,.int .i64 x3,.int .i64 x4,.int .i64 x5] 34);go_enter Tryz.func18,Tryz.ntmps18
 generalize hWA:w.alloc (.cells #[.int .i64 kind,.int .i64 a,.int .i64 b,.int .i64 d,.string s,.slice lp ln lc,.int .i64 fa,.int .i64 fk,.bool fp,.int .i64 fns,.int .i64 fnr,.slice fq info.length fc,.int .i64 x0,.int .i64 x1,.int .i64 x2,.int .i64 x3,.int .i64 x4,.int .i64 x5] 34)=WA at*;generalize hnB:w.heap.size=nB at*;have y0:WA.cell? ⟨nB,12,none⟩=some (.int .i64 x0):=by rw[Lib.cell_of_heap hA0];rfl
 have y1:WA.cell? ⟨nB,13,none⟩=some (.int .i64 x1):=by rw[Lib.cell_of_heap hA0];rfl
 have y2:WA.cell? ⟨nB,14,none⟩=some (.int .i64 x2):=by rw[Lib.cell_of_heap hA0];rfl
 have y3:WA.cell? ⟨nB,15,none⟩=some (.int .i64 x3):=by rw[Lib.cell_of_heap hA0];rfl
 have y4:WA.cell? ⟨nB,16,none⟩=some (.int .i64 x4):=by rw[Lib.cell_of_heap hA0];rfl
 have y5:WA.cell? ⟨nB,17,none⟩=some (.int .i64 x5):=by rw[Lib.cell_of_heap hA0];rfl
 have HA:=hide hA0;have HB:=hide hbA;clear hA0 hbA;go_wp2_with fail
 refine(Xa K1 _).mono ?_;rintro e W1 ⟨rfl,hb1⟩;have hz1:=hb1.size;have hA1:=(hb1.block nB (by omega)).trans (Xa HA);have z0:W1.cell? ⟨nB,12,none⟩=some (.int .i64 x0):=by rw[Lib.cell_of_heap hA1];rfl
 have z1:W1.cell? ⟨nB,13,none⟩=some (.int .i64 x1):=by rw[Lib.cell_of_heap hA1];rfl
 have z2:W1.cell? ⟨nB,14,none⟩=some (.int .i64 x2):=by rw[Lib.cell_of_heap hA1];rfl
 have z3:W1.cell? ⟨nB,15,none⟩=some (.int .i64 x3):=by rw[Lib.cell_of_heap hA1];rfl
 have z4:W1.cell? ⟨nB,16,none⟩=some (.int .i64 x4):=by rw[Lib.cell_of_heap hA1];rfl
 have z5:W1.cell? ⟨nB,17,none⟩=some (.int .i64 x5):=by rw[Lib.cell_of_heap hA1];rfl
 have HB1:=hide hb1;clear hA1 y0 y1 y2 y3 y4 y5 hb1 HA K1;go_wp2_with fail
 refine(Xa K2 _).mono ?_;rintro e W2 ⟨rfl,hb2⟩
 have HZ:Hid (Made B w wb x ps W2):=by
  have q:Below nB w W2:=(Xa HB).trans (((Xa HB1).mono (by omega)).trans (hb2.mono (by omega)));exact⟨own,ss,ps,(Xa HX).later (by rw[hnB];exact q),.inl rfl,q.mono (by omega)⟩
 clear hb2 z0 z1 z2 z3 z4 z5 HB HB1 K2 HX;go_wp2
 go_ret
 exact⟨rfl,Xa HZ⟩
theorem XmX {B:Nat}{w:World}{wb:Nat}{own:Nat→Nat}{ss:Value}{x:Lw}{ps:List Post}(h:Xx B w wb own ss x ps)(o:OpV)(hlv:∃lp ln lc,o.lv=.slice lp ln lc)(hps:ps.length≤200000000000)(hc:Qi o.c0 o.c1 o.c2 o.c3 o.c4 o.c5=true):
  Calls Tryz.prog 18 #[.pointer (some ⟨wb,0,none⟩),opV o] w fun e w'=>e=.returned (.bool true)∧Made B w wb x ps w':=by
 obtain⟨lp,ln,lc,hlv⟩:=hlv;obtain⟨kind,a,b,d,s,lv,⟨fa,fk,fp,fns,fnr,info⟩,fq,fc,x0,x1,x2,x3,x4,x5⟩:=o;simp only at hlv hc;subst hlv;unfold opV;simp only;obtain⟨c,hcok,rfl,rfl,rfl,rfl,rfl,rfl⟩:=Xn0 hc;obtain⟨i0,hi,hy0,hy1,hy2⟩:=info_parts XmQ;have hpos:=h.pos;have hown0:=h.XC;have HX:=hide h;have htop:=h.top;clear h hc;have hA0:=Xg w (.cells #[.int .i64 kind,.int .i64 a,.int .i64 b,.int .i64 d,.string s,.slice lp ln lc,.int .i64 fa,.int .i64 fk,.bool fp,.int .i64 fns,.int .i64 fnr,.slice fq info.length fc,.int .i64 c.m,.int .i64 c.win,.int .i64 c.tim,.int .i64 c.tri,.int .i64 c.room,.int .i64 c.addr] 34);have hbA:=(Below.refl w.heap.size w).alloc (Nat.le_refl _) (.cells #[.int .i64 kind,.int .i64 a,.int .i64 b,.int .i64 d,.string s,.slice lp ln lc,.int .i64 fa,.int .i64 fk,.bool fp,.int .i64 fns,.int .i64 fnr,.slice fq info.length fc,.int .i64 c.m,.int .i64 c.win,.int .i64 c.tim,.int .i64 c.tri,.int .i64 c.room,.int .i64 c.addr] 34);have hzA:=Xk w (.cells #[.int .i64 kind,.int .i64 a,.int .i64 b,.int .i64 d,.string s,.slice lp ln lc,.int .i64 fa,.int .i64 fk,.bool fp,.int .i64 fns,.int .i64 fnr,.slice fq info.length fc,.int .i64 c.m,.int .i64 c.win,.int .i64 c.tim,.int .i64 c.tri,.int .i64 c.room,.int .i64 c.addr] 34);go_enter Tryz.func18,Tryz.ntmps18
 generalize hWA:w.alloc (.cells #[.int .i64 kind,.int .i64 a,.int .i64 b,.int .i64 d,.string s,.slice lp ln lc,.int .i64 fa,.int .i64 fk,.bool fp,.int .i64 fns,.int .i64 fnr,.slice fq info.length fc,.int .i64 c.m,.int .i64 c.win,.int .i64 c.tim,.int .i64 c.tri,.int .i64 c.room,.int .i64 c.addr] 34)=WA at*;generalize hnB:w.heap.size=nB at*;have y0:WA.cell? ⟨nB,12,none⟩=some (.int .i64 c.m):=by rw[Lib.cell_of_heap hA0];rfl
 have y1:WA.cell? ⟨nB,13,none⟩=some (.int .i64 c.win):=by rw[Lib.cell_of_heap hA0];rfl
 have y2:WA.cell? ⟨nB,14,none⟩=some (.int .i64 c.tim):=by rw[Lib.cell_of_heap hA0];rfl
 have y3:WA.cell? ⟨nB,15,none⟩=some (.int .i64 c.tri):=by rw[Lib.cell_of_heap hA0];rfl
 have y4:WA.cell? ⟨nB,16,none⟩=some (.int .i64 c.room):=by rw[Lib.cell_of_heap hA0];rfl
 have y5:WA.cell? ⟨nB,17,none⟩=some (.int .i64 c.addr):=by rw[Lib.cell_of_heap hA0];rfl
 have HK1:=hide (Xog c hcok (2*ps.length) own WA hown0 ((Xa HX).later (by rw[hnB];exact hbA)).ctl (by omega));have HA:=hide hA0;have HB:=hide hbA;clear hA0 hbA;go_wp2_with fail
 refine(Xa HK1).mono ?_;rintro e W1 ⟨pb,rfl,hpb,hb1,hS⟩;have hz1:=hb1.size;have hA1:=(hb1.block nB (by omega)).trans (Xa HA);have z0:W1.cell? ⟨nB,12,none⟩=some (.int .i64 c.m):=by rw[Lib.cell_of_heap hA1];rfl
 have z1:W1.cell? ⟨nB,13,none⟩=some (.int .i64 c.win):=by rw[Lib.cell_of_heap hA1];rfl
 have z2:W1.cell? ⟨nB,14,none⟩=some (.int .i64 c.tim):=by rw[Lib.cell_of_heap hA1];rfl
 have z3:W1.cell? ⟨nB,15,none⟩=some (.int .i64 c.tri):=by rw[Lib.cell_of_heap hA1];rfl
 have z4:W1.cell? ⟨nB,16,none⟩=some (.int .i64 c.room):=by rw[Lib.cell_of_heap hA1];rfl
 have z5:W1.cell? ⟨nB,17,none⟩=some (.int .i64 c.addr):=by rw[Lib.cell_of_heap hA1];rfl
 generalize hnA:WA.heap.size=nA at*;generalize hn1:W1.heap.size=n1 at*;have ho1:∀k,k<nA→XZ own nA n1 (tg (2*ps.length) 0) k=own k:=fun k hk=>XR hk
 obtain⟨own1,hown1⟩:∃own1,XZ own nA n1 (tg (2*ps.length) 0)=own1:=⟨_,rfl⟩;rw[hown1]at hS ho1;have k2:=Xnr c hcok (2*ps.length+1) own1 W1 ((ho1 0 (by omega)).trans hown0) (by omega);rw[hn1]at k2;have HK2:=hide k2;have HB1:=hide hb1;have HS:=hide hS;clear hA1 y0 y1 y2 y3 y4 y5 hb1 HA HK1 hS k2;go_wp2_with fail
 refine(Xa HK2).mono ?_;rintro e W2 ⟨rb,rfl,hrb,hb2,hT⟩;have hz2:=hb2.size;rw[hn1]at hz2;obtain⟨W3,hW3⟩:∃W3,W2.alloc (.cells #[.pointer (some ⟨pb,0,none⟩),.pointer (some ⟨rb,0,none⟩)] 56)=W3:=⟨_,rfl⟩;have hb3:Below W2.heap.size W2 W3:=by rw[← hW3];exact(Below.refl _ W2).alloc (Nat.le_refl _) _
 have hz3:W3.heap.size=W2.heap.size+1:=by rw[← hW3];exact Xk W2 _
 have hn3:=QS W2 (X7 [(⟨pb,rb,c,St.fresh,false,St.fresh,false⟩:Post)]) 56;have hn3':∀j u,(X7 [(⟨pb,rb,c,St.fresh,false,St.fresh,false⟩:Post)])[j]?=some u→W3.cell? ((⟨W2.heap.size,0,none⟩:Addr).add j)=some u:=by rw[← hW3];exact hn3
 generalize hn2:W2.heap.size=n2 at*;have ho2:∀k,k<n1→XZ own1 n1 n2 (tg (2*ps.length+1) 0) k=own1 k:=fun k hk=>XR hk
 have hq2:∀k,n2≤k→XZ own1 n1 n2 (tg (2*ps.length+1) 0) k=0:=fun k hk=>ZI (by omega) hk
 obtain⟨own2,hown2⟩:∃own2,XZ own1 n1 n2 (tg (2*ps.length+1) 0)=own2:=⟨_,rfl⟩;rw[hown2]at hT ho2 hq2;have hbw:Below nB w W3:=(Xa HB).trans (((Xa HB1).mono (by omega)).trans ((hb2.mono (by omega)).trans (hb3.mono (by omega))));have gw:Xx B W3 wb own2 ss x ps:=(Xa HX).owned (by rw[hnB];exact hbw) (fun k hk=>(ho2 k (by omega)).trans (ho1 k (by omega))) (fun k hk=>hq2 k (by omega));have h20:own2 0=0:=gw.XC;have hS3:Stn W3 own2 (2*ps.length) pb c St.fresh false:=(Xa HS).beside (X:=fun _=>False) (Xb.of (by rw[hn1];exact hb2.trans (hb3.mono (by omega)))) (fun _ hx=>absurd hx id) id (fun k hk _=>ho2 k (by omega)) h20 (fun k hk=>hq2 k (by omega));have hT3:Ttn W3 own2 (2*ps.length+1) rb c St.fresh false:=hT.beside (X:=fun _=>False) (Xb.of (by rw[hn2];exact hb3)) (fun _ hx=>absurd hx id) (fun k hk _=>rfl) h20 (fun k hk=>hq2 k (by omega));have d0:=((Xa HX).later (w':=W2) (by rw[hnB];exact(Xa HB).trans (((Xa HB1).mono (by omega)).trans (hb2.mono (by omega))))).lw.bk.head.cell 1 _ rfl;obtain⟨sp,sc,hss,_⟩:=Xf gw.row;subst hss;have HROW:=hide gw.row;have HG:=hide gw;have HS3:=hide hS3;have HT3:=hide hT3;have HBW:=hide hbw;have d3:=gw.lw.bk.head.cell 1 _ rfl;clear gw hS3 hT3 hbw hT hb2 hb3 HS HK2 z0 z1 z2 z3 z4 z5 hn3 HB HB1 HX;go_wp2_with (at_builtin;go_loud (refine wpList_append_own_at _ rfl _ _ 37 rfl 0 56 i0 _ 2 16 Tryz.underlying37 hi hy0 hy1 hy2 rfl (by decide) _ _ _ rfl (Xa HROW) ⟨n2,0,none⟩ 1 1 (X7 [(⟨pb,rb,c,St.fresh,false,St.fresh,false⟩:Post)]) rfl rfl ?p0c1 ?p0c2 ?p0c3 ?p0c4 ?p0c5 ?_))
 case p0c1=>exact hn3'
 case p0c2=>intro u hu;simp[X7]at hu;rcases hu with rfl|rfl <;> rfl
 case p0c3=>unfold maxLen;omega
 case p0c4=>omega
 case p0c5=>exact Nat.zero_le _
 intro b0 y hown' hg _ hb0;obtain⟨bp,bc,rfl,_⟩:=Xf hown';have hok:=Xbn hcok;obtain⟨q1,q2⟩:=XmW (np:=⟨pb,rb,c,St.fresh,false,St.fresh,false⟩) (Xa HG) (Xa HS3) (Xa HT3) ⟨hok,hok⟩ hown' hg hb0 (by omega);have hd:=Xlo (Xa HG) hg;have d1:=hd.cell 1 _ rfl;have f1:=hd.fz
 have HE:Hid (Made B w wb x ps (y.setCell ⟨wb,1,none⟩ (.slice bp (ps.length+1) bc))):=
  ⟨_,_,_,q1,.inr ⟨_,rfl,⟨rfl,rfl⟩,rfl,hcok⟩,((Xa HBW).mono htop).trans q2⟩
 clear q1 q2 hd hown' hg hb0 HG HS3 HT3 HBW HROW d0 d3 hn3';go_wp2
 go_ret
 exact⟨rfl,Xa HE⟩
section
variable {B:Nat}{w V w':World}{wb M:Nat}{own:Nat→Nat}{ss:Value}{x:Lw}{ps:List Post}
theorem Lfs.lfa (h:Lfs x B wb ss M w w'):Lfa x B wb ss M w w':=by
 obtain⟨x',h1,h2,h3,h4,h5,h6⟩:=h;refine⟨x',h1,h2,h3,h4.mono (fun k hk=>.inl hk),fun k hk=> ?_⟩;rcases hk with hk|hk
 ·rcases h6 k hk with q|q
  ·exact .inl (.inl q)
  ·exact .inr q
 ·rw[h5]at hk;exact .inl (.inr hk)
theorem Xx.XoN (h:Xx B w wb own ss x ps)(q:Lfa x B wb ss M w w'):∃x',Xx B w' wb own ss x' ps∧x'.small M∧Below B w w':=by
 obtain⟨x',h1,h2,h3,h4,h5⟩:=q;have hpos:=h.pos;have htop:=h.top
 have hg:∀k,(Zg wb x k∨x.hs.ownBlock=some k)→Je wb ss x k:=fun k hk=>by
  rcases hk with hk|hk
  ·exact .inl hk
  ·exact .inr (.inl hk)
 have hx0:∀k,(Zg wb x k∨x.hs.ownBlock=some k)→own k=0∧B≤k:=fun k hk=>⟨h.XcJ (hg k hk),(h.below (hg k hk)).1⟩
 have hX0:¬(Zg wb x 0∨x.hs.ownBlock=some 0):=fun e=>by have:=(hx0 0 e).2;omega
 have hxt:∀i k,(Zg wb x k∨x.hs.ownBlock=some k)→∀p,p<5→own k≠tg i p:=fun i k hX p _ e=>Xq i p (e.symm.trans (hx0 k hX).1)
 have hn:∀k,w'.heap.size≤k→own k=0:=fun k hs=>h.Xp k (Nat.le_trans h4.size hs)
 have hns:∀k,ss.ownBlock=some k→¬(Zg wb x k∨x.hs.ownBlock=some k):=by
  intro k hk;obtain⟨c,hc⟩:=Xd h.row hk;rintro((rfl|hb|⟨e,he,hb⟩)|hb)
  ·have h3:=h.lw.bk.head;unfold WAt at h3;rw[hc]at h3;simp at h3
  ·obtain ⟨c2,t2,hc2,ht2⟩:=h.lw.bk.ty hb;rw[hc]at hc2;simp only[Option.some.injEq,Obj.cells.injEq]at hc2;rw[← hc2.2.1]at ht2;revert ht2
   unfold ZW;decide
  ·exact (h.lw.ears e he).not hc (by unfold QP;decide) hb
  ·obtain ⟨c2,hc2⟩:=Xd h.lw.row hb;rw[hc]at hc2;simp at hc2
 refine⟨x',⟨h1,Xc h.row h4 hns,fun n p hp=>(h.st n p hp).beside h4 (hxt _) hX0 (fun _ _ _=>rfl) h.XC hn,fun n p hp=>(h.rt n p hp).beside h4 (hxt _) (fun _ _ _=>rfl) h.XC hn,h.ok,?_,h.loS,h.lo,h.XC,hn,h.ctl.keeps h4 (by omega) hX0,h.pos,Nat.le_trans htop h4.size⟩,h2,h3⟩;rintro k hk (hb|hb|hb)
 ·rcases h5 k (.inl hb)with q|q
  ·exact h.free k hk (hg k q)
  ·exact hk (h.Xp k q)
 ·rcases h5 k (.inr hb)with q|q
  ·exact h.free k hk (hg k q)
  ·exact hk (h.Xp k q)
 ·exact h.free k hk (.inr (.inr hb))
theorem Xk2 (h:Xx B w wb own ss x ps)(hs:x.small M)(hM:M≤200000000000):Xca wb w (fun w'=>∃x',Xx B w' wb own ss x' ps∧x'.small (M+1)∧Below B w w'):=by
 intro V v xs n hV hv hn;have hL:=h.later hV;have hz:=hV.size;have htop:=h.top;have hvB:∀k,v.ownBlock=some k→w.heap.size≤k:=fun k hk=>(World.ownsRow.lt hv k hk).1
 have hLv:∀k,v.ownBlock=some k→own k=0∧B≤k∧¬Je wb ss x k:=fun k hk=>by
  have h1:=hvB k hk;exact⟨h.Xp k h1,by omega,fun hg=>by have:=(h.below hg).2;omega⟩
 refine(Xdg hL.lw.bk (Xw hv (Nat.zero_le _)) (fun k hk hb=>(hLv k hk).2.2 (.inl (.inr (.inl hb)))) (by have:=hs.eb;omega) hn).mono ?_;rintro e w' ⟨rfl,b',k1,k2,k3,k4,k5,k6,k7,k8,k9,k10,k11⟩
 have k10':Xb (fun k=>k=wb∨x.b.blk k∨v.ownBlock=some k) V w':=k10.mono (fun k hk=>by
  rcases hk with hk|hk|hk
  ·exact .inl hk
  ·exact .inr (.inl (.inl hk.symm))
  ·exact .inr (.inr hk.symm))
 obtain⟨g1,g2⟩:=hL.booked k1 k10' k11 hLv;refine⟨rfl,{x with b:=b'},g1,⟨?_,?_,?_,?_,?_,fun e he=> ?_⟩,(hV.mono htop).trans g2⟩
 ·have:=hs.es;show x.es.length≤_;omega
 ·have:=hs.eb;show b'.eb.length≤_;omega
 ·have:=hs.ef;show b'.ef.length≤_;rw[k6];omega
 ·have:=hs.el;show b'.el.length≤_;rw[k7];omega
 ·have:=hs.ei;show b'.ei.length≤_;rw[k8];omega
 ·have:=hs.ears e he;omega
end
end Go.Proofs.YtkalonhalhdlaaaGreatDoor
namespace Go.Proofs.YtkalonhalhdlaaaGreatDoor
open Go
theorem XiT:∀(l:List Nat) (n a b:Nat),l[n]?=some a→(l.set n b).sum+a=l.sum+b:=by
 intro l;induction l with
 |nil=>intro n a b h;simp at h
 |cons x r ih=>
  intro n a b h;cases n with
  |zero=>simp at h;subst h;simp only[List.set_cons_zero,List.sum_cons];omega
  |succ n=>
   have:=ih n a b (by simpa using h);simp only[List.set_cons_succ,List.sum_cons];omega
theorem Xk5:∀(l:List Nat) (n:Nat),n∈l→n≤l.sum:=by
 intro l;induction l with
 |nil=>intro n h;simp at h
 |cons x r ih=>
  intro n h;simp only[List.sum_cons];rcases List.mem_cons.1 h with rfl|h
  ·omega
  ·have:=ih n h;omega
def Xar (ps:List Post):Nat:=(ps.map fun p=>Phi p.c p.s).sum
def XaB (ps:List Post):Nat:=(ps.map fun p=>p.s.events.length).sum
theorem XaJ {ps:List Post}{n:Nat}{p:Post}(hp:ps[n]?=some p)(q:Post):Xar (ps.set n q)+Phi p.c p.s=Xar ps+Phi q.c q.s:=by
 unfold Xar;rw[List.map_set];exact XiT _ _ _ _ (by rw[List.getElem?_map,hp];rfl)
theorem Xbb {ps:List Post}{n:Nat}{p:Post}(hp:ps[n]?=some p)(q:Post):XaB (ps.set n q)+p.s.events.length=XaB ps+q.s.events.length:=by
 unfold XaB;rw[List.map_set];exact XiT _ _ _ _ (by rw[List.getElem?_map,hp];rfl)
theorem XgW {ps:List Post}{p:Post}(hp:p∈ps):Phi p.c p.s≤Xar ps:=Xk5 _ _ (List.mem_map_of_mem (f:=fun p:Post=>Phi p.c p.s) hp)
theorem Xo9 {ps:List Post}{p:Post}(hp:p∈ps):p.s.events.length≤XaB ps:=Xk5 _ _ (List.mem_map_of_mem (f:=fun p:Post=>p.s.events.length) hp)
theorem XoV {c:Cfg}{s:St}:s.out.length≤Phi c s:=Nat.le_trans (Xdf _) XmM
def hand (a b:Nat):Nat:=256*(a*b)+8*(b*b)
theorem Xgq (a b:Nat):hand (a+1) b=hand a b+256*b:=by
 have e:(a+1)*b=a*b+b:=Nat.succ_mul a b;unfold hand;omega
theorem XkW (a b:Nat):hand a (b+1)=hand a b+256*a+16*b+8:=by
 have e:a*(b+1)=a*b+a:=Nat.mul_succ a b;have e1:(b+1)*(b+1)=(b+1)*b+(b+1):=Nat.mul_succ _ _;have e2:(b+1)*b=b*b+b:=Nat.succ_mul b b;unfold hand;omega
theorem XmF (a b:Nat):4*(a*b)≤(a+b)*(a+b):=by
 rcases Nat.le_total a b with h|h
 ·obtain ⟨d,rfl⟩:=Nat.exists_eq_add_of_le h;have e1:a*(a+d)=a*a+a*d:=Nat.mul_add _ _ _
  have e2:(a+(a+d))*(a+(a+d))=a*a+a*a+a*a+a*a+a*d+a*d+a*d+a*d+d*d:=by
   simp only[Nat.mul_add,Nat.add_mul,Nat.mul_comm d a];omega
  rw[e1,e2];omega
 ·obtain ⟨d,rfl⟩:=Nat.exists_eq_add_of_le h;have e1:(b+d)*b=b*b+b*d:=by rw[Nat.add_mul,Nat.mul_comm d b]
  have e2:(b+d+b)*(b+d+b)=b*b+b*b+b*b+b*b+b*d+b*d+b*d+b*d+d*d:=by
   simp only[Nat.mul_add,Nat.add_mul,Nat.mul_comm d b];omega
  rw[e1,e2];omega
theorem XcF {a b:Nat}(h:a+b≤50000):hand a b≤180000000000:=by
 have h1:=XmF a b;have h2:(a+b)*(a+b)≤50000*50000:=Nat.mul_le_mul h h;have h3:b*b≤50000*50000:=Nat.mul_le_mul (by omega) (by omega);unfold hand;omega
structure Fit (a b M:Nat)(x:Lw)(ps:List Post):Prop where
 even:∀p∈ps,p.even
 short:∀p∈ps,p.s.short
 len:ps.length≤a+b
 phi:Xar ps≤256*a+15*b
 ev:XaB ps≤2*hand a b+20*(a+b)
 sm:x.small (M+hand a b+20*(a+b))
section
variable {a b M:Nat}{x x':Lw}{ps:List Post}{n:Nat}{p q:Post}{c d g:Nat}
theorem XbU {m m':Nat}(h:x.small m)(hg:Grew x x' g 0 c d)(h1:m+g≤m')(h2:m+c≤m')(h3:m+d≤m'):x'.small m':=by
 refine⟨?_,?_,?_,?_,?_,?_⟩
 ·rw[hg.es];have:=h.es;omega
 ·have:=hg.eb;have:=h.eb;omega
 ·have:=hg.ef;have:=h.ef;omega
 ·have:=hg.el;have:=h.el;omega
 ·have:=hg.ei;have:=h.ei;omega
 ·rw[hg.es];intro e he;have:=h.ears e he;omega
theorem Grew.none:Grew x x 0 0 0 0:=⟨rfl,rfl,by omega,by omega,by omega,by omega⟩
theorem Fit.more (h:Fit a b M x ps)(hp:ps[n]?=some p)(h1:q.even)(h2:q.s.short)(h3:Phi q.c q.s≤Phi p.c p.s+256)(h4:q.s.events.length≤p.s.events.length+20)(hg:Grew x x' g 0 c d)(hg1:g≤16)(hc:c≤1)(hd:d≤1):Fit (a+1) b M x' (ps.set n q):=by
 have e1:=XaJ hp q;have e2:=Xbb hp q;have e3:=Xgq a b;refine⟨fun r hr=> ?_,fun r hr=> ?_,?_,?_,?_,?_⟩
 ·rcases List.mem_or_eq_of_mem_set hr with hr|rfl
  ·exact h.even r hr
  ·exact h1
 ·rcases List.mem_or_eq_of_mem_set hr with hr|rfl
  ·exact h.short r hr
  ·exact h2
 ·rw[List.length_set];have:=h.len;omega
 ·have:=h.phi;omega
 ·have:=h.ev;omega
 ·exact XbU h.sm hg (by omega) (by omega) (by omega)
theorem Fit.idle (h:Fit a b M x ps):Fit (a+1) b M x ps:=by
 have e3:=Xgq a b;exact⟨h.even,h.short,by have:=h.len;omega,by have:=h.phi;omega,by have:=h.ev;omega,h.sm.mono (by omega)⟩
theorem Fit.made (h:Fit a b M x ps)(h1:q.even)(hs:q.s=St.fresh)(hc:q.c.ok):Fit (a+1) b M x (ps++[q]):=by
 have e3:=Xgq a b;have hf:=XkU hc;refine⟨fun r hr=> ?_,fun r hr=> ?_,?_,?_,?_,h.sm.mono (by omega)⟩
 ·rcases List.mem_append.1 hr with hr|hr
  ·exact h.even r hr
  ·simp at hr;exact hr▸h1
 ·rcases List.mem_append.1 hr with hr|hr
  ·exact h.short r hr
  ·simp at hr;rw[hr,hs];exact⟨fun m hm=>by simp[St.fresh]at hm,fun m hm=>by simp[St.fresh]at hm⟩
 ·rw[List.length_append];have:=h.len;simp;omega
 ·have e:Xar (ps++[q])=Xar ps+Phi q.c q.s:=by unfold Xar;rw[List.map_append,List.sum_append];simp
  rw[e,hs];have:=h.phi;omega
 ·have e:XaB (ps++[q])=XaB ps+q.s.events.length:=by unfold XaB;rw[List.map_append,List.sum_append];simp
  rw[e,hs];have:=h.ev;show XaB ps+0≤_
  omega
theorem Fit.less (h:Fit a b M x ps)(hp:ps[n]?=some p)(h1:q.even)(h2:q.s.short)(h3:Phi q.c q.s+g≤Phi p.c p.s)(h4:q.s.events.length≤p.s.events.length)(hg:Grew x x' g 0 c d)(hc:c≤1)(hd:d≤1):Fit a (b+1) M x' (ps.set n q):=by
 have e1:=XaJ hp q;have e2:=Xbb hp q;have e3:=XkW a b;have e4:=XgW (Xl hp);have e5:=h.phi;refine⟨fun r hr=> ?_,fun r hr=> ?_,?_,?_,?_,?_⟩
 ·rcases List.mem_or_eq_of_mem_set hr with hr|rfl
  ·exact h.even r hr
  ·exact h1
 ·rcases List.mem_or_eq_of_mem_set hr with hr|rfl
  ·exact h.short r hr
  ·exact h2
 ·rw[List.length_set];have:=h.len;omega
 ·omega
 ·have:=h.ev;omega
 ·exact XbU h.sm hg (by omega) (by omega) (by omega)
theorem Fit.carry (h:Fit a b M x ps)(hcok:∀r∈ps,r.c.ok∧r.s.ok r.c)(hp:ps[n]?=some p){ny:Nat}{y:Post}{L M':List Msg}{s1:St}(hs1:s1=if p.cl then p.s else {p.s with out:=[]})(hL:L=if p.cl then []else p.s.out)
  (hy:(ps.set n (p.to s1))[ny]?=some y) (hsub:M'.Sublist L) (hg:Grew x x' L.length 0 1 0):Fit a (b+1) M x' ((ps.set n (p.to s1)).set ny (y.to (Yw y.c y.cl y.s M'))):=by
 have hpm:=Xl hp
 have hLp:Phi p.c s1+Xaa L≤Phi p.c p.s:=by
  rw[hs1,hL];split
  ·show Phi p.c p.s+0≤_
   omega
  ·exact XiN
 have hs1e:s1.events=p.s.events:=by rw[hs1];split <;> rfl
 have hs1s:s1.short:=by
  rw[hs1];split
  ·exact h.short p hpm
  ·exact ⟨fun m hm=>by simp at hm,(h.short p hpm).came⟩
 have hs1k:s1.ok p.c:=by
  rw[hs1];split
  ·exact (hcok p hpm).2
  ·exact Xey (hcok p hpm).2 _
 have hall:∀r∈ps.set n (p.to s1),r.even∧r.s.short∧r.c.ok∧r.s.ok r.c:=by
  intro r hr;rcases List.mem_or_eq_of_mem_set hr with hr|rfl
  ·exact ⟨h.even r hr,h.short r hr,hcok r hr⟩
  ·exact ⟨⟨rfl,(h.even p hpm).2⟩,hs1s,(hcok p hpm).1,hs1k⟩
 obtain⟨y1,y2,y3,y4⟩:=hall y (Xl hy);have hg1:=XbY y.c y.cl y.s M';have hlen:=hsub.length_le;have hLl:=Xdf L;have e1:=XaJ hp (p.to s1);have e2:=Xbb hp (p.to s1);have e1':=XaJ hy (y.to (Yw y.c y.cl y.s M'));have e2':=Xbb hy (y.to (Yw y.c y.cl y.s M'));have q1:Phi (p.to s1).c (p.to s1).s=Phi p.c s1:=rfl;have q2:(p.to s1).s.events.length=p.s.events.length:=by show s1.events.length=_;rw[hs1e]
 have q3:Phi (y.to (Yw y.c y.cl y.s M')).c (y.to (Yw y.c y.cl y.s M')).s≤Phi y.c y.s+Xaa M'+15:=XhP y3 y4 y.cl M';have q4:(y.to (Yw y.c y.cl y.s M')).s.events.length≤y.s.events.length+2*M'.length:=hg1.events;have q5:=XmN hsub;have e3:=XkW a b;have e4:=XgW hpm;have e5:=h.phi;refine⟨fun r hr=> ?_,fun r hr=> ?_,?_,?_,?_,?_⟩
 ·rcases List.mem_or_eq_of_mem_set hr with hr|rfl
  ·exact (hall r hr).1
  ·exact ⟨rfl,y1.2⟩
 ·rcases List.mem_or_eq_of_mem_set hr with hr|rfl
  ·exact (hall r hr).2.1
  ·exact y2.grown hg1 (Xgr _ _ _ _)
 ·rw[List.length_set,List.length_set];have:=h.len;omega
 ·omega
 ·have:=h.ev;omega
 ·exact XbU h.sm hg (by omega) (by omega) (by omega)
end
end Go.Proofs.YtkalonhalhdlaaaGreatDoor
namespace Go.Proofs.YtkalonhalhdlaaaGreatDoor
open Go.RowKit
theorem Xj1 {B:Nat}{w:World}{wb:Nat}{own:Nat→Nat}{ss:Value}{x:Lw}{ps:List Post}{Q:World→World→Prop}(h:Xx B w wb own ss x ps)(hnp:0<ps.length)(hps:ps.length≤200000000000)(o:OpV)(hlv:∃lp ln lc,o.lv=.slice lp ln lc)(hk:21≤o.kind∧o.kind≤33)(hoa: -9223372036854775808≤o.a∧o.a≤9223372036854775807)
  (h25:o.kind=25→∀r (hr:r<ps.length) V,Below w.heap.size w V→Calls Tryz.prog 19 #[.pointer (some ⟨wb,0,none⟩),Yb ps[r],.bool false] V fun e w'=>∃m,e=.returned (.tuple #[m,.bool true])∧Q V w')
  (h29:o.kind=29→∀r (hr:r<ps.length) V,Below w.heap.size w V→Calls Tryz.prog 19 #[.pointer (some ⟨wb,0,none⟩),Yb ps[r],.bool true] V fun e w'=>∃m,e=.returned (.tuple #[m,.bool true])∧Q V w')
  (h30:o.kind=30→∀r (hr:r<ps.length) V,Below w.heap.size w V→Calls Tryz.prog 20 #[.pointer (some ⟨wb,0,none⟩),Yb ps[r],opV o] V fun e w'=>e=.returned (.bool true)∧Q V w')
  (h31:o.kind=31→∀r (hr:r<ps.length) V,Below w.heap.size w V→Calls Tryz.prog 21 #[.pointer (some ⟨wb,0,none⟩),Yb ps[r],opV o] V fun e w'=>e=.returned (.bool true)∧Q V w')
  (h32:o.kind=32→∀r (hr:r<ps.length) V,Below w.heap.size w V→Calls Tryz.prog 21 #[.pointer (some ⟨wb,0,none⟩),Yb ps[r],opV o] V fun e w'=>e=.returned (.bool true)∧Q V w')
  (hact:o.kind≠25→o.kind≠29→o.kind≠30→o.kind≠31→o.kind≠32→∀r (hr:r<ps.length) V,Below w.heap.size w V→Calls Tryz.prog 22 #[Yb ps[r],opV o] V fun e w'=>e=.returned (.bool true)∧Q V w'):
  Calls Tryz.prog 12 #[.pointer (some ⟨wb,0,none⟩),opV o] w fun e w'=>e=.returned (.bool true)∧∃V,Below w.heap.size w V∧Q V w':=by
 obtain⟨lp,ln,lc,hlv⟩:=hlv;obtain⟨kind,a,b,d,s,lv,⟨fa,fk,fp,fns,fnr,info⟩,fq,fc,x0,x1,x2,x3,x4,x5⟩:=o;simp only at hlv hk hoa h25 h29 h30 h31 h32 hact;subst hlv;have k1:(1:Int)≤kind:=by omega
 have k2:¬kind≤3:=by omega
 have k8:¬kind<21:=by omega
 have k9:¬(33:Int)<kind:=by omega
 have q4:(kind==4)=false:=beq_false_of_ne (by omega);have q5:(kind==5)=false:=beq_false_of_ne (by omega);have q10:(kind==10)=false:=beq_false_of_ne (by omega);have q11:(kind==11)=false:=beq_false_of_ne (by omega);have q20:(kind==20)=false:=beq_false_of_ne (by omega);obtain⟨r,hr,hpick⟩:=JV a ps.length hoa hnp hps;have c25:=fun e=>h25 e r hr
 have c29:=fun e=>h29 e r hr
 have c30:=fun e=>h30 e r hr
 have c31:=fun e=>h31 e r hr
 have c32:=fun e=>h32 e r hr
 have cact:=fun e1 e2 e3 e4 e5=>hact e1 e2 e3 e4 e5 r hr
 clear h25 h29 h30 h31 h32 hact;obtain⟨sp,scap,hss,hsg⟩:=Xf h.row;obtain⟨g,rfl⟩:=hsg hnp;obtain⟨W0,hW0⟩:∃W0,w.alloc (.cells #[.int .i64 kind,.int .i64 a,.int .i64 b,.int .i64 d,.string s,.slice lp ln lc,.int .i64 fa,.int .i64 fk,.bool fp,.int .i64 fns,.int .i64 fnr,.slice fq info.length fc,.int .i64 x0,.int .i64 x1,.int .i64 x2,.int .i64 x3,.int .i64 x4,.int .i64 x5] 34)=W0:=⟨_,rfl⟩;have hz0:W0.heap.size=w.heap.size+1:=by rw[← hW0,Xk]
 have hb0:Below w.heap.size w W0:=by rw[← hW0];exact(Below.refl _ w).alloc (Nat.le_refl _) _
 have hox:W0.heap[w.heap.size]?=some (.cells #[.int .i64 kind,.int .i64 a,.int .i64 b,.int .i64 d,.string s,.slice lp ln lc,.int .i64 fa,.int .i64 fk,.bool fp,.int .i64 fns,.int .i64 fnr,.slice fq info.length fc,.int .i64 x0,.int .i64 x1,.int .i64 x2,.int .i64 x3,.int .i64 x4,.int .i64 x5] 34):=by rw[← hW0];exact Xg w _
 have h0:=h.later hb0;have e0:=Xb2 ps r hr;have yc0:=World.ownsRow.cells h0.row (g:=g) (by rw[hss];rfl) (r*2) _ e0.1;have yc1:=World.ownsRow.cells h0.row (g:=g) (by rw[hss];rfl) (r*2+1) _ e0.2;rw[Go.WideShapes.add_plain,Nat.zero_add]at yc0 yc1;have d1:=h0.lw.bk.head.cell 1 _ rfl;rw[hss]at d1;have o0:W0.cell? ⟨w.heap.size,0,none⟩=some (.int .i64 kind):=by rw[Lib.cell_of_heap hox];rfl
 have o1:W0.cell? ⟨w.heap.size,1,none⟩=some (.int .i64 a):=by rw[Lib.cell_of_heap hox];rfl
 unfold Yb at c25 c29 c30 c31 c32 cact;simp only[opV]at c30 c31 c32 cact;generalize ps[r]=y at*;have hnI:0<(ps.length:Int):=by omega
 have hn0:((ps.length:Int)==0)=false:=beq_false_of_ne (by omega);have hrI:(r:Int)<(ps.length:Int):=by omega
 have HP:=hide hpick;have H25:=hide c25;have H29:=hide c29;have H30:=hide c30;have H31:=hide c31;have H32:=hide c32;have HACT:=hide cact;have H0:=hide h0;have HB0:=hide (And.intro hb0 hox);unfold opV;simp only;have hwl:wb<W0.heap.size:=(h0.below (.inl (.inl rfl))).2;have hgl:g<W0.heap.size:=(h0.below (k:=g) (.inr (.inr (by rw[hss];rfl)))).2;clear h h0 hpick hb0 hox e0 c25 c29 c30 c31 c32 cact;go_enter Tryz.func12,Tryz.ntmps12
 generalize hnB:w.heap.size=nB at*;go_upto_region 11 with fail
 try rw[hW0]
 clear hW0;have hS0:W0.cell? ⟨wb,1,none⟩=some (.slice (some ⟨g,0,none⟩) ps.length scap)∧W0.cell? ⟨nB,1,none⟩=some (.int .i64 a)∧W0.cell? ⟨g,r*2,none⟩=some (.pointer (some ⟨y.pb,0,none⟩))∧W0.cell? ⟨g,r*2+1,none⟩=some (.pointer (some ⟨y.rb,0,none⟩)):=⟨d1,o1,yc0,yc1⟩
 have HSA:Hid (∀ o,(W0.alloc o).drew.cell? ⟨wb,1,none⟩=some (.slice (some ⟨g,0,none⟩) ps.length scap)∧(W0.alloc o).drew.cell? ⟨nB,1,none⟩=some (.int .i64 a)∧(W0.alloc o).drew.cell? ⟨g,r*2,none⟩=some (.pointer (some ⟨y.pb,0,none⟩))∧(W0.alloc o).drew.cell? ⟨g,r*2+1,none⟩=some (.pointer (some ⟨y.rb,0,none⟩))):=fun o=>by
  have hb:=((Below.refl W0.heap.size W0).alloc (Nat.le_refl _) o).drew;exact⟨(hb.cell (p:=⟨wb,1,none⟩) hwl).trans d1,(hb.cell (p:=⟨nB,1,none⟩) (by show nB<W0.heap.size;omega)).trans o1,(hb.cell (p:=⟨g,r*2,none⟩) hgl).trans yc0,(hb.cell (p:=⟨g,r*2+1,none⟩) hgl).trans yc1⟩
 have HS0:=hide hS0;clear hS0;go_cut [5]from 90 to 104 (fun z wx=>∃bx V,z=.pointer (some ⟨bx,0,none⟩)∧wx=V∧Below W0.heap.size W0 V∧W0.heap.size≤bx∧V.heap[bx]?=some (.cells #[.pointer (some ⟨y.pb,0,none⟩),.pointer (some ⟨y.rb,0,none⟩)] 56 (0,0)))
 case first=>
  clear d1 o0 o1 yc0 yc1;go_region_held3 (fun w'=>w'.cell? ⟨wb,1,none⟩=some (.slice (some ⟨g,0,none⟩) ps.length scap)∧w'.cell? ⟨nB,1,none⟩=some (.int .i64 a)∧w'.cell? ⟨g,r*2,none⟩=some (.pointer (some ⟨y.pb,0,none⟩))∧w'.cell? ⟨g,r*2+1,none⟩=some (.pointer (some ⟨y.rb,0,none⟩))) (first|assumption|exact Xa HS0|exact Xa HSA _) (first|(go_at_call 16;refine(Xa HP _).mono ?_;rintro e w5 ⟨rfl,rfl⟩)|fail)
  all_goals go_wp2_with fail
  all_goals go_meet
  all_goals exact⟨_,_,rfl,rfl,((Below.refl W0.heap.size W0).alloc (Nat.le_refl _) _).drew,by omega,by rw[show nB+1=W0.heap.size by omega];exact Xg W0 _⟩
 case rest=>
 obtain⟨bx,V,rfl,hwV,hbV,hbxl,hbxo⟩:=hcut;rw[hwV];clear hwV;obtain⟨hb0,hox⟩:=Xa HB0;have hzV:=hbV.size;have hoxV:=(hbV.block nB (by omega)).trans hox;have hbw:Below nB w V:=hb0.trans (hbV.mono (by omega));have HBW:=hide hbw;have b0:V.cell? ⟨bx,0,none⟩=some (.pointer (some ⟨y.pb,0,none⟩)):=by rw[Lib.cell_of_heap hbxo];rfl
 have b1:V.cell? ⟨bx,1,none⟩=some (.pointer (some ⟨y.rb,0,none⟩)):=by rw[Lib.cell_of_heap hbxo];rfl
 have p0:V.cell? ⟨nB,0,none⟩=some (.int .i64 kind):=by rw[Lib.cell_of_heap hoxV];rfl
 have HRG:Hid (V.rangeAt nB 0 [.int .i64 kind,.int .i64 a,.int .i64 b,.int .i64 d,.string s,.slice lp ln lc,.int .i64 fa,.int .i64 fk,.bool fp,.int .i64 fns,.int .i64 fnr,.slice fq info.length fc,.int .i64 x0,.int .i64 x1,.int .i64 x2,.int .i64 x3,.int .i64 x4,.int .i64 x5]):=fun j u hj=>by rw[Nat.zero_add,Lib.cell_of_heap hoxV];simpa using hj
 have hinfo:=Xab;clear hoxV hb0 hox hbxo hbV HS0 HSA d1 o0 o1 yc0 yc1 HB0 H0 HP;by_cases e25:kind=25
 ·subst e25;have KC:=hide (Xa H25 rfl V hbw);go_wp2_with (first|(refine wpList_load_mid rfl 34 _ rfl nB 0 rfl [.int .i64 25,.int .i64 a,.int .i64 b,.int .i64 d,.string s,.slice lp ln lc,.int .i64 fa,.int .i64 fk,.bool fp,.int .i64 fns,.int .i64 fnr,.slice fq info.length fc,.int .i64 x0,.int .i64 x1,.int .i64 x2,.int .i64 x3,.int .i64 x4,.int .i64 x5] _ (Xa HRG) Tryz.underlying34 rfl hinfo ?_)|fail)
  refine(Xa KC).mono ?_;rintro e w1 ⟨m,rfl,hq⟩;have HQ:=hide hq;clear hq KC;go_wp2
  go_ret
  exact⟨rfl,V,Xa HBW,Xa HQ⟩
 have f25:(kind==25)=false:=beq_false_of_ne e25;by_cases e29:kind=29
 ·subst e29;have KC:=hide (Xa H29 rfl V hbw);go_wp2_with (first|(refine wpList_load_mid rfl 34 _ rfl nB 0 rfl [.int .i64 29,.int .i64 a,.int .i64 b,.int .i64 d,.string s,.slice lp ln lc,.int .i64 fa,.int .i64 fk,.bool fp,.int .i64 fns,.int .i64 fnr,.slice fq info.length fc,.int .i64 x0,.int .i64 x1,.int .i64 x2,.int .i64 x3,.int .i64 x4,.int .i64 x5] _ (Xa HRG) Tryz.underlying34 rfl hinfo ?_)|fail)
  refine(Xa KC).mono ?_;rintro e w1 ⟨m,rfl,hq⟩;have HQ:=hide hq;clear hq KC;go_wp2
  go_ret
  exact⟨rfl,V,Xa HBW,Xa HQ⟩
 have f29:(kind==29)=false:=beq_false_of_ne e29;by_cases e30:kind=30
 ·subst e30;have KC:=hide (Xa H30 rfl V hbw);go_wp2_with (first|(refine wpList_load_mid rfl 34 _ rfl nB 0 rfl [.int .i64 30,.int .i64 a,.int .i64 b,.int .i64 d,.string s,.slice lp ln lc,.int .i64 fa,.int .i64 fk,.bool fp,.int .i64 fns,.int .i64 fnr,.slice fq info.length fc,.int .i64 x0,.int .i64 x1,.int .i64 x2,.int .i64 x3,.int .i64 x4,.int .i64 x5] _ (Xa HRG) Tryz.underlying34 rfl hinfo ?_)|fail)
  refine(Xa KC).mono ?_;rintro e w1 ⟨rfl,hq⟩;have HQ:=hide hq;clear hq KC;go_wp2
  go_ret
  exact⟨rfl,V,Xa HBW,Xa HQ⟩
 have f30:(kind==30)=false:=beq_false_of_ne e30;by_cases e31:kind=31
 ·subst e31;have KC:=hide (Xa H31 rfl V hbw);go_wp2_with (first|(refine wpList_load_mid rfl 34 _ rfl nB 0 rfl [.int .i64 31,.int .i64 a,.int .i64 b,.int .i64 d,.string s,.slice lp ln lc,.int .i64 fa,.int .i64 fk,.bool fp,.int .i64 fns,.int .i64 fnr,.slice fq info.length fc,.int .i64 x0,.int .i64 x1,.int .i64 x2,.int .i64 x3,.int .i64 x4,.int .i64 x5] _ (Xa HRG) Tryz.underlying34 rfl hinfo ?_)|fail)
  refine(Xa KC).mono ?_;rintro e w1 ⟨rfl,hq⟩;have HQ:=hide hq;clear hq KC;go_wp2
  go_ret
  exact⟨rfl,V,Xa HBW,Xa HQ⟩
 have f31:(kind==31)=false:=beq_false_of_ne e31;by_cases e32:kind=32
 ·subst e32;have KC:=hide (Xa H32 rfl V hbw);go_wp2_with (first|(refine wpList_load_mid rfl 34 _ rfl nB 0 rfl [.int .i64 32,.int .i64 a,.int .i64 b,.int .i64 d,.string s,.slice lp ln lc,.int .i64 fa,.int .i64 fk,.bool fp,.int .i64 fns,.int .i64 fnr,.slice fq info.length fc,.int .i64 x0,.int .i64 x1,.int .i64 x2,.int .i64 x3,.int .i64 x4,.int .i64 x5] _ (Xa HRG) Tryz.underlying34 rfl hinfo ?_)|fail)
  refine(Xa KC).mono ?_;rintro e w1 ⟨rfl,hq⟩;have HQ:=hide hq;clear hq KC;go_wp2
  go_ret
  exact⟨rfl,V,Xa HBW,Xa HQ⟩
 have f32:(kind==32)=false:=beq_false_of_ne e32;have KC:=hide (Xa HACT e25 e29 e30 e31 e32 V hbw);go_wp2_with (first|(refine wpList_load_mid rfl 34 _ rfl nB 0 rfl [.int .i64 kind,.int .i64 a,.int .i64 b,.int .i64 d,.string s,.slice lp ln lc,.int .i64 fa,.int .i64 fk,.bool fp,.int .i64 fns,.int .i64 fnr,.slice fq info.length fc,.int .i64 x0,.int .i64 x1,.int .i64 x2,.int .i64 x3,.int .i64 x4,.int .i64 x5] _ (Xa HRG) Tryz.underlying34 rfl hinfo ?_)|fail)
 refine(Xa KC).mono ?_;rintro e w1 ⟨rfl,hq⟩;have HQ:=hide hq;clear hq KC;go_wp2
 go_ret
 exact⟨rfl,V,Xa HBW,Xa HQ⟩
theorem XlH {B:Nat}{w:World}{wb:Nat}{own:Nat→Nat}{ss:Value}{x:Lw}{ps:List Post}{Q:World→World→Prop}(h:Xx B w wb own ss x ps)(o:OpV)(hlv:∃lp ln lc,o.lv=.slice lp ln lc)(hk:o.kind=20)
  (hcall:∀V,Below w.heap.size w V→Calls Tryz.prog 18 #[.pointer (some ⟨wb,0,none⟩),opV o] V fun e w'=>e=.returned (.bool true)∧Q V w'):
  Calls Tryz.prog 12 #[.pointer (some ⟨wb,0,none⟩),opV o] w fun e w'=>e=.returned (.bool true)∧∃V,Below w.heap.size w V∧Q V w':=by
 obtain⟨lp,ln,lc,hlv⟩:=hlv;obtain⟨kind,a,b,d,s,lv,⟨fa,fk,fp,fns,fnr,info⟩,fq,fc,x0,x1,x2,x3,x4,x5⟩:=o;simp only at hlv hk;subst hlv hk;obtain⟨W0,hW0⟩:∃W0,w.alloc (.cells #[.int .i64 20,.int .i64 a,.int .i64 b,.int .i64 d,.string s,.slice lp ln lc,.int .i64 fa,.int .i64 fk,.bool fp,.int .i64 fns,.int .i64 fnr,.slice fq info.length fc,.int .i64 x0,.int .i64 x1,.int .i64 x2,.int .i64 x3,.int .i64 x4,.int .i64 x5] 34)=W0:=⟨_,rfl⟩;have hb0:Below w.heap.size w W0:=by rw[← hW0];exact(Below.refl _ w).alloc (Nat.le_refl _) _
 have hox:W0.heap[w.heap.size]?=some (.cells #[.int .i64 20,.int .i64 a,.int .i64 b,.int .i64 d,.string s,.slice lp ln lc,.int .i64 fa,.int .i64 fk,.bool fp,.int .i64 fns,.int .i64 fnr,.slice fq info.length fc,.int .i64 x0,.int .i64 x1,.int .i64 x2,.int .i64 x3,.int .i64 x4,.int .i64 x5] 34):=by rw[← hW0];exact Xg w _
 have hc:=hcall W0 hb0;clear hcall;have h0:=h.later hb0;have d0:=h0.lw.bk.head.cell 0 _ rfl;obtain⟨hp,hcap,hhs,_⟩:=Xf h.lw.row;rw[hhs]at d0;simp only[opV]at hc;have KC:=hide hc;have HB0:=hide hb0;unfold opV;simp only;clear h h0 hc hb0;go_enter Tryz.func12,Tryz.ntmps12
 generalize hnB:w.heap.size=nB at*;have p0:W0.cell? ⟨nB,0,none⟩=some (.int .i64 20):=by rw[Lib.cell_of_heap hox];rfl
 have HRG:Hid (W0.rangeAt nB 0 [.int .i64 20,.int .i64 a,.int .i64 b,.int .i64 d,.string s,.slice lp ln lc,.int .i64 fa,.int .i64 fk,.bool fp,.int .i64 fns,.int .i64 fnr,.slice fq info.length fc,.int .i64 x0,.int .i64 x1,.int .i64 x2,.int .i64 x3,.int .i64 x4,.int .i64 x5]):=fun j u hj=>by rw[Nat.zero_add,Lib.cell_of_heap hox];simpa using hj
 have hinfo:=Xab;clear hox;go_wp2_with (first|(refine wpList_load_mid rfl 34 _ rfl nB 0 rfl [.int .i64 20,.int .i64 a,.int .i64 b,.int .i64 d,.string s,.slice lp ln lc,.int .i64 fa,.int .i64 fk,.bool fp,.int .i64 fns,.int .i64 fnr,.slice fq info.length fc,.int .i64 x0,.int .i64 x1,.int .i64 x2,.int .i64 x3,.int .i64 x4,.int .i64 x5] _ (Xa HRG) Tryz.underlying34 rfl hinfo ?_)|fail)
 refine(Xa KC).mono ?_;rintro e w1 ⟨rfl,hq⟩;have HQ:=hide hq;clear hq KC;go_wp2
 go_ret
 exact⟨rfl,W0,Xa HB0,Xa HQ⟩
theorem XlF {B:Nat}{w:World}{wb:Nat}{own:Nat→Nat}{ss:Value}{x:Lw}{ps:List Post}(h:Xx B w wb own ss x ps)(hps:ps.length=0)(o:OpV)(hlv:∃lp ln lc,o.lv=.slice lp ln lc)(hk:21≤o.kind∧o.kind≤33):
  Calls Tryz.prog 12 #[.pointer (some ⟨wb,0,none⟩),opV o] w fun e w'=>e=.returned (.bool true)∧Below w.heap.size w w':=by
 obtain⟨lp,ln,lc,hlv⟩:=hlv;obtain⟨kind,a,b,d,s,lv,⟨fa,fk,fp,fns,fnr,info⟩,fq,fc,x0,x1,x2,x3,x4,x5⟩:=o;simp only at hlv hk;subst hlv;have k1:(1:Int)≤kind:=by omega
 have k2:¬kind≤3:=by omega
 have k8:¬kind<21:=by omega
 have k9:¬(33:Int)<kind:=by omega
 have q4:(kind==4)=false:=beq_false_of_ne (by omega);have q5:(kind==5)=false:=beq_false_of_ne (by omega);have q10:(kind==10)=false:=beq_false_of_ne (by omega);have q11:(kind==11)=false:=beq_false_of_ne (by omega);have q20:(kind==20)=false:=beq_false_of_ne (by omega);obtain⟨W0,hW0⟩:∃W0,w.alloc (.cells #[.int .i64 kind,.int .i64 a,.int .i64 b,.int .i64 d,.string s,.slice lp ln lc,.int .i64 fa,.int .i64 fk,.bool fp,.int .i64 fns,.int .i64 fnr,.slice fq info.length fc,.int .i64 x0,.int .i64 x1,.int .i64 x2,.int .i64 x3,.int .i64 x4,.int .i64 x5] 34)=W0:=⟨_,rfl⟩;have hb0:Below w.heap.size w W0:=by rw[← hW0];exact(Below.refl _ w).alloc (Nat.le_refl _) _
 have hox:W0.heap[w.heap.size]?=some (.cells #[.int .i64 kind,.int .i64 a,.int .i64 b,.int .i64 d,.string s,.slice lp ln lc,.int .i64 fa,.int .i64 fk,.bool fp,.int .i64 fns,.int .i64 fnr,.slice fq info.length fc,.int .i64 x0,.int .i64 x1,.int .i64 x2,.int .i64 x3,.int .i64 x4,.int .i64 x5] 34):=by rw[← hW0];exact Xg w _
 have h0:=h.later hb0;have d1:=h0.lw.bk.head.cell 1 _ rfl;obtain⟨sp,scap,hss,_⟩:=Xf h.row;rw[hss,hps]at d1;have o0:W0.cell? ⟨w.heap.size,0,none⟩=some (.int .i64 kind):=by rw[Lib.cell_of_heap hox];rfl
 have HB0:=hide hb0;unfold opV;simp only;clear h h0 hb0 hox hk;go_enter Tryz.func12,Tryz.ntmps12
 generalize hnB:w.heap.size=nB at*;go_wp2
 go_ret
 exact⟨rfl,Xa HB0⟩
structure OpS (w:World)(o:OpV):Prop where
 a: -9223372036854775808≤o.a∧o.a≤9223372036854775807
 b: -9223372036854775808≤o.b∧o.b≤9223372036854775807
 d: -9223372036854775808≤o.d∧o.d≤9223372036854775807
 s:o.s.size≤1048576
 lv:∃lp ln lc,o.lv=.slice lp ln lc
 src:Qn w o.fq o.f.info
theorem OpS.below {w w':World}{o:OpV}(h:OpS w o){B:Nat}(hb:Below B w w')(hB:w.heap.size≤B):OpS w' o:=⟨h.a,h.b,h.d,h.s,h.lv,h.src.below hb hB⟩
section
variable {c:Cfg}{s:St}
theorem Xem:Xo 18 2 s (X4 c s).2:=by
 unfold X4;split
 ·exact (Xcc 1 5).mono (by omega) (by omega)
 ·exact Xo.same rfl rfl
theorem XgM:Xo 18 2 s (YF c s).2:=by
 unfold YF;split
 ·exact Xo.same rfl rfl
 ·exact (Xcc 3 6).mono (by omega) (by omega)
theorem Xfp:(X4 c s).2.came=s.came:=by unfold X4;split <;> rfl
theorem XhX:(YF c s).2.came=s.came:=by unfold YF;split <;> rfl
theorem Xi1 (on:Bool):(Qz c on s).came=s.came:=by unfold Qz;rw[XcW]
theorem Xis:(ZL c s).came=[]:=by unfold ZL;rw[XcW]
theorem Xj7 (cl:Bool)(k:Nat):(Yi cl c s k).came=s.came:=by
 induction k with
 |zero=>rfl
 |succ k ih=>
  unfold Yi;split
  ·exact ih
  ·rw[Xj8,ih]
theorem Xl5 (hc:c.ok)(h:s.ok c)(cl:Bool)(k:Nat):Phi c (Yi cl c s k)≤Phi c s+16*k:=by
 induction k with
 |zero=>exact Nat.le_refl _
 |succ k ih=>
  unfold Yi;split
  ·omega
  ·have:=(Xl6 (lu:=false) (XbV (cl:=cl) hc h k)).phi;omega
theorem XkY (hc:c.ok)(h:s.ok c)(m:Msg):Phi c (Yy c m s).2≤Phi c s+46:=by
 have h1:=((Xe2 (lu:=false) hc h m).trans Lim.calm).phi;have h2:=XoM false m;have h3:(if kR m then 15 else 0)≤15:=by split <;> omega
 omega
structure Meet (c:Cfg)(s t:St):Prop where
 short:t.short
 phi:Phi c t≤Phi c s+256
 ev:t.events.length≤s.events.length+20
theorem Meet.same (h:s.short):Meet c s s:=⟨h,by omega,by omega⟩
theorem Meet.of {t:St}{k e:Nat}(h:s.short)(hg:Xo k e s t)(he:e≤20)(hc:XD s t)(hp:Phi c t≤Phi c s+256):Meet c s t:=⟨h.grown hg hc,hp,by have:=hg.events;omega⟩
theorem Meet.cl {t:St}{P:Prop} [Decidable P](h:s.short)(k:Meet c s t):Meet c s (if P then s else t):=by
 split
 ·exact Meet.same h
 ·exact k
theorem XgO (h:s.short):Meet c s (X4 c s).2:=Meet.of h Xem (by omega) (XD.same Xfp) (by have:=(Xf9 (c:=c) (s:=s) (lu:=false)).phi;omega)
theorem Xjy (h:s.short):Meet c s (YF c s).2:=Meet.of h XgM (by omega) (XD.same XhX) (by have:=(Xjt (c:=c) (s:=s) (lu:=false)).phi;omega)
theorem Xlh (h:s.short)(on:Bool):Meet c s (Qz c on s):=Meet.of h (XhC on) (by omega) (XD.same (Xi1 on)) (by have:=(XkB (c:=c) (s:=s) (lu:=false) on).phi;omega)
theorem Xjz (hc:c.ok)(h:s.short):Meet c s (ZL c s):=Meet.of h Xhn (by omega) (fun m hm=>by rw[Xis]at hm;simp at hm) (by have:=(Xj4 (c:=c) (s:=s) (lu:=false) hc).phi;omega)
theorem Xli (hc:c.ok)(ho:s.ok c)(h:s.short)(m:Msg):Meet c s (Qa c m s).2:=Meet.of h (Xii m) (by omega) (XD.same (XjZ m)) (by have:=(XlD (lu:=false) hc ho m).phi;omega)
theorem Xfe (hc:c.ok)(ho:s.ok c)(h:s.short)(m:Msg):Meet c s (Yy c m s).2:=Meet.of h (XcY m) (by omega) (XdS m) (by have:=XkY hc ho m;omega)
theorem Xlj (hc:c.ok)(ho:s.ok c)(h:s.short)(cl:Bool){k:Nat}(hk:k≤8):Meet c s (Yi cl c s k):=Meet.of h (Jn cl c s k) (by omega) (XD.same (Xj7 cl k)) (by have:=Xl5 hc ho cl k;omega)
theorem Xh3 (h:s.short):Meet c s {s with events:=[]}:=by
 refine⟨⟨h.out,h.came⟩,?_,Nat.zero_le _⟩;have h1:Lim c 0 0 0 false false s {s with events:=[]}:=Lim.quiet rfl rfl rfl rfl rfl rfl rfl;have:=h1.phi;omega
end
def Goes (B wb a b M:Nat)(hs:Value)(es:List Ear)(w w':World):Prop:=
 ∃own' ss' x' ps',Xx B w' wb own' ss' x' ps'∧(Fit (a+1) b M x' ps'∨Fit a (b+1) M x' ps')∧Below B w w'∧x'.hs=hs∧x'.es=es
section
variable {B:Nat}{w V w':World}{wb:Nat}{own:Nat→Nat}{ss:Value}{x:Lw}{ps:List Post}{a b M:Nat}
theorem Xgp (hf:Fit a b M x ps){n:Nat}{p:Post}(hp:ps[n]?=some p){s':St}(hm:Meet p.c p.s s')(h:Now B V wb own ss x (ps.set n (p.to s')) w'):Goes B wb a b M x.hs x.es V w':=by
 obtain⟨own',h1,_,h3⟩:=h;exact⟨own',ss,x,_,h1,.inl (hf.more hp ⟨rfl,(hf.even p (Xl hp)).2⟩ hm.short hm.phi hm.ev Grew.none (by omega) (by omega) (by omega)),h3,rfl,rfl⟩
theorem Xcy (h:Xx B w wb own ss x ps)(hf:Fit a b M x ps)(hab:a+b≤50000)(hM:M≤10000000000)(o:OpV)(ho:OpS w o)(hk:20≤o.kind∧o.kind≤33):
  Calls Tryz.prog 12 #[.pointer (some ⟨wb,0,none⟩),opV o] w fun e w'=>e=.returned (.bool true)∧Goes B wb a b M x.hs x.es w w':=by
 have htop:=h.top;have hhand:=XcF hab;have hlen:=hf.len
 have hfin:∀ {e:Ending} {w':World},(e=.returned (.bool true)∧∃V,Below w.heap.size w V∧Goes B wb a b M x.hs x.es V w')→(e=.returned (.bool true)∧Goes B wb a b M x.hs x.es w w'):=by
  rintro e w' ⟨rfl,V,hV,own',ss',x',ps',q1,q2,q3,q4⟩;exact⟨rfl,own',ss',x',ps',q1,q2,(hV.mono htop).trans q3,q4⟩
 have hout:∀q∈ps,q.s.out.length≤100000000:=fun q hq=>by
  have h1:=XgW hq;have h2:=hf.phi;have h3:=XoV (c:=q.c) (s:=q.s);omega
 have hevs:∀q∈ps,q.s.events.length≤400000000000:=fun q hq=>by
  have h1:=Xo9 hq;have h2:=hf.ev;omega
 have heb:x.b.eb.length≤800000000000:=by have:=hf.sm.eb;omega
 have hel:x.b.el.length≤800000000000:=by have:=hf.sm.el;omega
 have hei:x.b.ei.length≤800000000000:=by have:=hf.sm.ei;omega
 by_cases h20:o.kind=20
 ·refine (XlH (Q:=Goes B wb a b M x.hs x.es) h o ho.lv h20 (fun V hV=> ?_)).mono (fun _ _ q=>hfin q);have hV':=h.later hV
  have key:∀ {e:Ending} {w':World},(e=.returned (.bool true)∧Made B V wb x ps w')→(e=.returned (.bool true)∧Goes B wb a b M x.hs x.es V w'):=by
   rintro e w' ⟨rfl,own',ss',ps',q1,q2,q3⟩;rcases q2 with rfl|⟨np,rfl,n1,n2,n3⟩
   ·exact ⟨rfl,own',ss',x,_,q1,.inl hf.idle,q3,rfl,rfl⟩
   ·exact ⟨rfl,own',ss',x,_,q1,.inl (hf.made n1 n2 n3),q3,rfl,rfl⟩
  cases hc:Qi o.c0 o.c1 o.c2 o.c3 o.c4 o.c5 with
  |false=>exact(Xoe hV' o ho.lv hc).mono (fun _ _ q=>key q)
  |true=>exact(XmX hV' o ho.lv (by omega) hc).mono (fun _ _ q=>key q)
 by_cases hn:ps.length=0
 ·refine (XlF h hn o ho.lv (by omega)).mono ?_;rintro e w' ⟨rfl,hb⟩;exact⟨rfl,own,ss,x,ps,h.later hb,.inl hf.idle,hb.mono htop,rfl,rfl⟩
 have hnp:0<ps.length:=by omega
 have hps:ps.length≤200000000000:=by omega
 refine(Xj1 (Q:=Goes B wb a b M x.hs x.es) h hnp hps o ho.lv (by omega) ho.a ?_ ?_ ?_ ?_ ?_ ?_).mono (fun _ _ q=>hfin q)
 ·intro h25 r hr V hV;have hp:ps[r]?=some ps[r]:=List.getElem?_eq_getElem hr;have hpm:=Xl hp;have hcok:=h.cok hp
  have hcl:(if ps[r].cl then []else ps[r].s.came).length≤16:=by
   split
   ·simp
   ·have:=(h.ok _ hpm).1.came;have:=hcok.room16;omega
  refine(Xh0 (h.later hV) hp (hf.even _ hpm) (by have:=hout _ hpm;omega) (fun m hm=> ?_) (by omega) (by omega) (by omega)).mono ?_
  ·have:m∈ps[r].s.came:=by
    split at hm
    ·simp at hm
    ·exact hm
   have:=(hf.short _ hpm).came m this;omega
  ·rintro e w' ⟨m,me,rfl,own',x',q1,q2,_,q4,_,_⟩;have hm:=Meet.cl (P:=ps[r].cl=true) (hf.short _ hpm) (Xjz hcok (hf.short _ hpm));exact⟨m,rfl,own',ss,x',_,q1,.inl (hf.more hp ⟨rfl,(hf.even _ hpm).2⟩ hm.short hm.phi hm.ev q2 hcl (by omega) (by omega)),q4,q2.hs,q2.es⟩
 ·intro h29 r hr V hV;have hp:ps[r]?=some ps[r]:=List.getElem?_eq_getElem hr;have hpm:=Xl hp;have ho1:=hout _ hpm
  have hcl:(if ps[r].cl then []else ps[r].s.out).length≤100000000:=by
   split
   ·simp
   ·exact ho1
  refine(Xfb (h.later hV) hp (hf.even _ hpm) (fun m hm=> ?_) (by omega) (by omega) (by omega)).mono ?_
  ·have:m∈ps[r].s.out:=by
    split at hm
    ·simp at hm
    ·exact hm
   have:=(hf.short _ hpm).out m this;omega
  ·rintro e w' ⟨m,me,rfl,own',x',q1,q2,_,q4,_,_⟩;refine⟨m,rfl,own',ss,x',_,q1,.inr (hf.less hp ⟨rfl,(hf.even _ hpm).2⟩ ?_ ?_ ?_ q2 (by omega) (by omega)),q4,q2.hs,q2.es⟩
   ·show St.short (if ps[r].cl then ps[r].s else {ps[r].s with out:=[]})
    split
    ·exact hf.short _ hpm
    ·exact ⟨fun m hm=>by simp at hm,(hf.short _ hpm).came⟩
   ·show Phi ps[r].c (if ps[r].cl then ps[r].s else {ps[r].s with out:=[]})+(if ps[r].cl then []else ps[r].s.out).length≤_
    split
    ·simp
    ·have h1:=XiN (c:=ps[r].c) (s:=ps[r].s);exact Nat.le_trans (Nat.add_le_add_left (Xdf ps[r].s.out) _) h1
   ·show (if ps[r].cl then ps[r].s else {ps[r].s with out:=[]}).events.length≤_
    split <;> exact Nat.le_refl _
 ·intro h30 r hr V hV;have hp:ps[r]?=some ps[r]:=List.getElem?_eq_getElem hr;have hpm:=Xl hp;have ho1:=hout _ hpm;refine(XhF (h.later hV) hp hf.even o ho.lv ho.b ho.d hps (fun m hm=>by have:=(hf.short _ hpm).out m hm;omega) (by omega) (by omega) (by omega) (fun q hq=>⟨by have:=hout q hq;omega,by have:=hevs q hq;omega⟩)).mono ?_;rintro e w' ⟨rfl,ny,y,M',own',x',c1,c2,c3,c4,c5⟩
  exact⟨rfl,own',ss,x',_,c3,.inr (hf.carry (fun q hq=>by
   obtain⟨i,hi⟩:=List.getElem?_of_mem hq;exact⟨h.cok hi,(h.ok q hq).1⟩) hp rfl rfl c1 c2 c4),c5,c4.hs,c4.es⟩
 ·intro h31 r hr V hV;have hp:ps[r]?=some ps[r]:=List.getElem?_eq_getElem hr;have hpm:=Xl hp;refine(Xix (h.later hV) hp (hf.even _ hpm) o ho.lv h31 (by omega) (by have:=hevs _ hpm;omega)).mono ?_;rintro e w' ⟨rfl,own',x',q1,q2,q3⟩;have hm:=Meet.cl (P:=ps[r].cl=true) (hf.short _ hpm) (Xh3 (c:=ps[r].c) (hf.short _ hpm));exact⟨rfl,own',ss,x',_,q1,.inl (hf.more hp ⟨rfl,(hf.even _ hpm).2⟩ hm.short hm.phi hm.ev q2 (by omega) (by omega) (by omega)),q3,q2.hs,q2.es⟩
 ·intro h32 r hr V hV;have hp:ps[r]?=some ps[r]:=List.getElem?_eq_getElem hr;have hpm:=Xl hp;refine(Xl9 (h.later hV) hp (hf.even _ hpm) o ho.lv h32).mono ?_;rintro e w' ⟨rfl,own',x',q1,q2,q3⟩;have hm:=Meet.same (c:=ps[r].c) (hf.short _ hpm);have e1:=hf.more hp (hf.even _ hpm) hm.short hm.phi hm.ev q2 (by omega) (by omega) (by omega);rw[set_self hp]at e1;exact⟨rfl,own',ss,x',_,q1,.inl e1,q3,q2.hs,q2.es⟩
 ·intro h25 h29 h30 h31 h32 r hr V hV;have hp:ps[r]?=some ps[r]:=List.getElem?_eq_getElem hr;have hpm:=Xl hp;have hV':=h.later hV;have hev:=hf.even _ hpm;have hsh:=hf.short _ hpm;have hcok:=h.cok hp;have hok:=(h.ok _ hpm).1;have ho1:=hout _ hpm;have he1:=hevs _ hpm
  have key:∀ {s':St} {e:Ending} {w':World},Meet ps[r].c ps[r].s s'→(e=.returned (.bool true)∧Now B V wb own ss x (ps.set r (ps[r].to s')) w')→(e=.returned (.bool true)∧Goes B wb a b M x.hs x.es V w'):=
   fun hm q=>⟨q.1,Xgp hf hp hm q.2⟩
  have hsw:Qn V o.fq o.f.info:=ho.src.below hV (Nat.le_refl _);by_cases h21:o.kind=21
  ·exact (XfW hV' hp hev o ho.lv h21 (by omega)).mono (fun _ _ q=>key (Meet.cl hsh (XgO hsh)) q)
  by_cases h22:o.kind=22
  ·exact (XiW hV' hp hev o ho.lv h22 (by omega)).mono (fun _ _ q=>key (Meet.cl hsh (Xjy hsh)) q)
  by_cases h23:o.kind=23
  ·exact (Xko hV' hp hev o ho.lv h23 ho.s (by omega)).mono (fun _ _ q=>key (Meet.cl hsh (Xli hcok hok hsh _)) q)
  by_cases h24:o.kind=24
  ·exact (Xkm hV' hp hev o ho.lv h24 (by omega)).mono (fun _ _ q=>key (Meet.cl hsh (Xlh hsh _)) q)
  by_cases h26:o.kind=26
  ·exact (Xkn hV' hp hev o ho.lv h26 ho.s (by omega) (by omega)).mono (fun _ _ q=>key (Meet.cl hsh (Xfe hcok hok hsh _)) q)
  by_cases h27:o.kind=27
  ·exact (XiV hV' hp hev o ho.lv h27 hsw (fun U hU=>hsw.below hU (Nat.le_refl _)) (by omega) (by omega)).mono (fun _ _ q=>key (Meet.cl hsh (Xfe hcok hok hsh _)) q)
  by_cases h28:o.kind=28
  ·refine (Xkp hV' hp hev o ho.lv h28 ho.b (by omega) (by omega)).mono ?_;rintro e w' ⟨rfl,k,hk8,q⟩;exact⟨rfl,Xgp hf hp (Xlj hcok hok hsh _ hk8) q⟩
  ·have h33:o.kind=33:=by omega
   refine(XiU hV' hp hev o ho.lv h33).mono ?_;rintro e w' ⟨rfl,own',q1,_,q3⟩;have hm:=Meet.same (c:=ps[r].c) hsh;exact⟨rfl,own',ss,x,_,q1,.inl (hf.more (q:={ps[r]with cl:=true,dl:=true}) hp ⟨hev.1,rfl⟩ hm.short hm.phi hm.ev Grew.none (by omega) (by omega) (by omega)),q3,rfl,rfl⟩
end
end Go.Proofs.YtkalonhalhdlaaaGreatDoor
