import Derived.Test.YtkalonhalhdlaaaGreatDoorG31
import Derived.Test.YtkalonhalhdlaaaGreatDoorVStep4
set_option maxHeartbeats 8000000
set_option maxRecDepth 1000000
namespace Go.Proofs.YtkalonhalhdlaaaGreatDoor
open Go.RowKit
theorem Now.of {B:Nat}{w W w':World}{wb:Nat}{own:Nat→Nat}{ss:Value}{x:Lw}{ps':List Post}(h:Now B W wb own ss x ps' w')(hb:Below w.heap.size w W)(hB:B≤w.heap.size):Now B w wb own ss x ps' w':=by
 obtain⟨own',h1,h2,h3⟩:=h;exact⟨own',h1,(Calm.of hb).trans h2,(hb.mono hB).trans h3⟩
theorem XcH {B:Nat}{w w1 w2:World}{wb:Nat}{own own1 own2:Nat→Nat}{ss:Value}{x:Lw}{ps:List Post}{n:Nat}{p:Post}{s':St}(hev:p.even)(hc1:Calm own own1 w w1)(hb1:Below B w w1)
  (h2:Xx B w2 wb own2 ss x ((ps.set n {p with s:=s'}).set n {({p with s:=s'}:Post)with t:=s',dl:=p.cl})) (hc2:Calm own1 own2 w1 w2) (hb2:Below B w1 w2):Now B w wb own ss x (ps.set n (p.to s')) w2:=by
 refine⟨own2,?_,hc1.trans hc2,hb1.trans hb2⟩;rw[List.set_set]at h2;unfold Post.to;rw[hev.2];exact h2
theorem ZT (w:World)(o1 o2:Obj):((w.alloc o1).alloc o2).heap.size=w.heap.size+2∧Below w.heap.size w ((w.alloc o1).alloc o2)∧((w.alloc o1).alloc o2).heap[w.heap.size]?=some o1∧((w.alloc o1).alloc o2).heap[w.heap.size+1]?=some o2:=by
 refine⟨by rw[Xk,Xk],((Below.refl _ w).alloc (Nat.le_refl _) _).alloc (by rw[Xk];omega) _,?_,?_⟩
 ·rw[((Below.refl _ (w.alloc o1)).alloc (Nat.le_refl _) _).block w.heap.size (by rw[Xk];omega)];exact Xg w _
 ·have:=Xg (w.alloc o1) o2;rw[Xk]at this;exact this
theorem XfW {B:Nat}{w:World}{wb:Nat}{own:Nat→Nat}{ss:Value}{x:Lw}{ps:List Post}(h:Xx B w wb own ss x ps){n:Nat}{p:Post}(hp:ps[n]?=some p)(hev:p.even)(o:OpV)(hlv:∃lp ln lc,o.lv=.slice lp ln lc)(hk:o.kind=21)(hl:p.s.out.length+18≤2199023255552):
  Calls Tryz.prog 22 #[Yb p,opV o] w fun e w'=>e=.returned (.bool true)∧Now B w wb own ss x (ps.set n (p.to (if p.cl then p.s else(X4 p.c p.s).2))) w':=by
 obtain⟨lp,ln,lc,hlv⟩:=hlv;obtain⟨kind,a,b,d,s,lv,⟨fa,fk,fp,fns,fnr,info⟩,fq,fc,x0,x1,x2,x3,x4,x5⟩:=o;simp only at hlv hk;subst hlv hk;obtain⟨W0,hW0⟩:∃W0,(w.alloc (.cells #[.pointer (some ⟨p.pb,0,none⟩),.pointer (some ⟨p.rb,0,none⟩)] 56)).alloc (.cells #[.int .i64 21,.int .i64 a,.int .i64 b,.int .i64 d,.string s,.slice lp ln lc,.int .i64 fa,.int .i64 fk,.bool fp,.int .i64 fns,.int .i64 fnr,.slice fq info.length fc,.int .i64 x0,.int .i64 x1,.int .i64 x2,.int .i64 x3,.int .i64 x4,.int .i64 x5] 34)=W0:=⟨_,rfl⟩;obtain⟨hz0,hb0,hbx,hox⟩:=ZT w (.cells #[.pointer (some ⟨p.pb,0,none⟩),.pointer (some ⟨p.rb,0,none⟩)] 56) (.cells #[.int .i64 21,.int .i64 a,.int .i64 b,.int .i64 d,.string s,.slice lp ln lc,.int .i64 fa,.int .i64 fk,.bool fp,.int .i64 fns,.int .i64 fnr,.slice fq info.length fc,.int .i64 x0,.int .i64 x1,.int .i64 x2,.int .i64 x3,.int .i64 x4,.int .i64 x5] 34);rw[hW0]at hz0 hb0 hbx hox;have h0:=h.later hb0;have hcok:=h.cok hp;have hok:=(h.ok p (Xl hp)).1;have hev1:=hev.1;have hev2:=hev.2;have b0:W0.cell? ⟨w.heap.size,0,none⟩=some (.pointer (some ⟨p.pb,0,none⟩)):=by rw[Lib.cell_of_heap hbx];rfl
 have b1:W0.cell? ⟨w.heap.size,1,none⟩=some (.pointer (some ⟨p.rb,0,none⟩)):=by rw[Lib.cell_of_heap hbx];rfl
 have o0:W0.cell? ⟨w.heap.size+1,0,none⟩=some (.int .i64 21):=by rw[Lib.cell_of_heap hox];rfl
 have o2:W0.cell? ⟨w.heap.size+1,2,none⟩=some (.int .i64 b):=by rw[Lib.cell_of_heap hox];rfl
 have o4:W0.cell? ⟨w.heap.size+1,4,none⟩=some (.string s):=by rw[Lib.cell_of_heap hox];rfl
 have hown:∀k,w.heap.size≤k→own k=0:=h.Xp;have htop:=h.top;obtain⟨en,hen⟩:∃en,(if p.cl then 8 else(X4 p.c p.s).1)=en:=⟨_,rfl⟩;obtain⟨s',hs'⟩:∃s',(if p.cl then p.s else(X4 p.c p.s).2)=s':=⟨_,rfl⟩
 have hok':St.ok p.c s':=by
  rw[← hs'];split
  ·exact hok
  ·exact XhG hcok hok
 obtain⟨ch,q,cm,oo,ev,qe,ce,oe,hS⟩:=h0.st n p hp;have k1:=XhH hS hl;rw[hen,hs']at k1;have K1:=hide k1;have H0:=hide h0;have HBX:=hide hbx;have HOX:=hide hox;have HB0:=hide hb0;rw[hs'];unfold Yb opV;simp only;clear h h0 hbx hox hS k1 ch q cm oo ev qe ce oe hb0;go_enter Tryz.func22,Tryz.ntmps22
 generalize hnB:w.heap.size=nB at*;go_wp2_with fail
 refine(Xa K1).mono ?_;intro e W1 hans;obtain⟨rfl,own1,h1,hc1,hb1⟩:=(Xa H0).ans hp hok' hans;dsimp only
 clear hans K1;have hz1:=hc1.keeps.size;have hbx1:=(hc1.keeps.block nB (by omega) (fun e=>e (hown _ (by omega)))).trans (Xa HBX);have hox1:=(hc1.keeps.block (nB+1) (by omega) (fun e=>e (hown _ (by omega)))).trans (Xa HOX);have b1':W1.cell? ⟨nB,1,none⟩=some (.pointer (some ⟨p.rb,0,none⟩)):=by rw[Lib.cell_of_heap hbx1];rfl
 have o2':W1.cell? ⟨nB+1,2,none⟩=some (.int .i64 b):=by rw[Lib.cell_of_heap hox1];rfl
 have hp1:(ps.set n {p with s:=s'})[n]?=some {p with s:=s'}:=Yq hp;obtain⟨q,cm,oo,ev,ce,oe,hT⟩:=h1.rt n _ hp1;simp only at hT;rw[hev1,hev2]at hT;have k2:=Xhp hT hl;rw[hen,hs']at k2;have K2:=hide k2;have HA:=hide (And.intro h1 (And.intro hc1 hb1));clear h1 hc1 hb1 hbx1 hox1 hT k2 q cm oo ev ce oe;go_wp2_with fail
 refine(Xa K2).mono ?_;intro e W2 hans;obtain⟨h1,hc1,hb1⟩:=Xa HA;obtain⟨rfl,own2,h2,hc2,hb2⟩:=h1.Xds hp1 hok' hans;dsimp only
 have HZ:Hid (Now B w wb own ss x (ps.set n (p.to s')) W2):=by
  have q:=XcH hev hc1 hb1 h2 hc2 hb2;exact q.of (by rw[hnB];exact Xa HB0) (by omega)
 clear hans K2 h1 hc1 hb1 h2 hc2 hb2 HA;go_wp2
 go_ret
 exact⟨rfl,Xa HZ⟩
theorem XiW {B:Nat}{w:World}{wb:Nat}{own:Nat→Nat}{ss:Value}{x:Lw}{ps:List Post}(h:Xx B w wb own ss x ps){n:Nat}{p:Post}(hp:ps[n]?=some p)(hev:p.even)(o:OpV)(hlv:∃lp ln lc,o.lv=.slice lp ln lc)(hk:o.kind=22)(hl:p.s.out.length+18≤2199023255552):
  Calls Tryz.prog 22 #[Yb p,opV o] w fun e w'=>e=.returned (.bool true)∧Now B w wb own ss x (ps.set n (p.to (if p.cl then p.s else(YF p.c p.s).2))) w':=by
 obtain⟨lp,ln,lc,hlv⟩:=hlv;obtain⟨kind,a,b,d,s,lv,⟨fa,fk,fp,fns,fnr,info⟩,fq,fc,x0,x1,x2,x3,x4,x5⟩:=o;simp only at hlv hk;subst hlv hk;obtain⟨W0,hW0⟩:∃W0,(w.alloc (.cells #[.pointer (some ⟨p.pb,0,none⟩),.pointer (some ⟨p.rb,0,none⟩)] 56)).alloc (.cells #[.int .i64 22,.int .i64 a,.int .i64 b,.int .i64 d,.string s,.slice lp ln lc,.int .i64 fa,.int .i64 fk,.bool fp,.int .i64 fns,.int .i64 fnr,.slice fq info.length fc,.int .i64 x0,.int .i64 x1,.int .i64 x2,.int .i64 x3,.int .i64 x4,.int .i64 x5] 34)=W0:=⟨_,rfl⟩;obtain⟨hz0,hb0,hbx,hox⟩:=ZT w (.cells #[.pointer (some ⟨p.pb,0,none⟩),.pointer (some ⟨p.rb,0,none⟩)] 56) (.cells #[.int .i64 22,.int .i64 a,.int .i64 b,.int .i64 d,.string s,.slice lp ln lc,.int .i64 fa,.int .i64 fk,.bool fp,.int .i64 fns,.int .i64 fnr,.slice fq info.length fc,.int .i64 x0,.int .i64 x1,.int .i64 x2,.int .i64 x3,.int .i64 x4,.int .i64 x5] 34);rw[hW0]at hz0 hb0 hbx hox;have h0:=h.later hb0;have hcok:=h.cok hp;have hok:=(h.ok p (Xl hp)).1;have hev1:=hev.1;have hev2:=hev.2;have b0:W0.cell? ⟨w.heap.size,0,none⟩=some (.pointer (some ⟨p.pb,0,none⟩)):=by rw[Lib.cell_of_heap hbx];rfl
 have b1:W0.cell? ⟨w.heap.size,1,none⟩=some (.pointer (some ⟨p.rb,0,none⟩)):=by rw[Lib.cell_of_heap hbx];rfl
 have o0:W0.cell? ⟨w.heap.size+1,0,none⟩=some (.int .i64 22):=by rw[Lib.cell_of_heap hox];rfl
 have o2:W0.cell? ⟨w.heap.size+1,2,none⟩=some (.int .i64 b):=by rw[Lib.cell_of_heap hox];rfl
 have o4:W0.cell? ⟨w.heap.size+1,4,none⟩=some (.string s):=by rw[Lib.cell_of_heap hox];rfl
 have hown:∀k,w.heap.size≤k→own k=0:=h.Xp;have htop:=h.top;obtain⟨en,hen⟩:∃en,(if p.cl then 8 else(YF p.c p.s).1)=en:=⟨_,rfl⟩;obtain⟨s',hs'⟩:∃s',(if p.cl then p.s else(YF p.c p.s).2)=s':=⟨_,rfl⟩
 have hok':St.ok p.c s':=by
  rw[← hs'];split
  ·exact hok
  ·exact Xk6 hcok hok
 obtain⟨ch,q,cm,oo,ev,qe,ce,oe,hS⟩:=h0.st n p hp;have k1:=Xk7 hS hl;rw[hen,hs']at k1;have K1:=hide k1;have H0:=hide h0;have HBX:=hide hbx;have HOX:=hide hox;have HB0:=hide hb0;rw[hs'];unfold Yb opV;simp only;clear h h0 hbx hox hS k1 ch q cm oo ev qe ce oe hb0;go_enter Tryz.func22,Tryz.ntmps22
 generalize hnB:w.heap.size=nB at*;go_wp2_with fail
 refine(Xa K1).mono ?_;intro e W1 hans;obtain⟨rfl,own1,h1,hc1,hb1⟩:=(Xa H0).ans hp hok' hans;dsimp only
 clear hans K1;have hz1:=hc1.keeps.size;have hbx1:=(hc1.keeps.block nB (by omega) (fun e=>e (hown _ (by omega)))).trans (Xa HBX);have hox1:=(hc1.keeps.block (nB+1) (by omega) (fun e=>e (hown _ (by omega)))).trans (Xa HOX);have b1':W1.cell? ⟨nB,1,none⟩=some (.pointer (some ⟨p.rb,0,none⟩)):=by rw[Lib.cell_of_heap hbx1];rfl
 have o2':W1.cell? ⟨nB+1,2,none⟩=some (.int .i64 b):=by rw[Lib.cell_of_heap hox1];rfl
 have hp1:(ps.set n {p with s:=s'})[n]?=some {p with s:=s'}:=Yq hp;obtain⟨q,cm,oo,ev,ce,oe,hT⟩:=h1.rt n _ hp1;simp only at hT;rw[hev1,hev2]at hT;have k2:=Xj9 hT hl;rw[hen,hs']at k2;have K2:=hide k2;have HA:=hide (And.intro h1 (And.intro hc1 hb1));clear h1 hc1 hb1 hbx1 hox1 hT k2 q cm oo ev ce oe;go_wp2_with fail
 refine(Xa K2).mono ?_;intro e W2 hans;obtain⟨h1,hc1,hb1⟩:=Xa HA;obtain⟨rfl,own2,h2,hc2,hb2⟩:=h1.Xds hp1 hok' hans;dsimp only
 have HZ:Hid (Now B w wb own ss x (ps.set n (p.to s')) W2):=by
  have q:=XcH hev hc1 hb1 h2 hc2 hb2;exact q.of (by rw[hnB];exact Xa HB0) (by omega)
 clear hans K2 h1 hc1 hb1 h2 hc2 hb2 HA;go_wp2
 go_ret
 exact⟨rfl,Xa HZ⟩
theorem Xkm {B:Nat}{w:World}{wb:Nat}{own:Nat→Nat}{ss:Value}{x:Lw}{ps:List Post}(h:Xx B w wb own ss x ps){n:Nat}{p:Post}(hp:ps[n]?=some p)(hev:p.even)(o:OpV)(hlv:∃lp ln lc,o.lv=.slice lp ln lc)(hk:o.kind=24)(hl:p.s.out.length+18≤2199023255552):
  Calls Tryz.prog 22 #[Yb p,opV o] w fun e w'=>e=.returned (.bool true)∧Now B w wb own ss x (ps.set n (p.to (if p.cl then p.s else Qz p.c (o.b==1) p.s))) w':=by
 obtain⟨lp,ln,lc,hlv⟩:=hlv;obtain⟨kind,a,b,d,s,lv,⟨fa,fk,fp,fns,fnr,info⟩,fq,fc,x0,x1,x2,x3,x4,x5⟩:=o;simp only at hlv hk;subst hlv hk;obtain⟨W0,hW0⟩:∃W0,(w.alloc (.cells #[.pointer (some ⟨p.pb,0,none⟩),.pointer (some ⟨p.rb,0,none⟩)] 56)).alloc (.cells #[.int .i64 24,.int .i64 a,.int .i64 b,.int .i64 d,.string s,.slice lp ln lc,.int .i64 fa,.int .i64 fk,.bool fp,.int .i64 fns,.int .i64 fnr,.slice fq info.length fc,.int .i64 x0,.int .i64 x1,.int .i64 x2,.int .i64 x3,.int .i64 x4,.int .i64 x5] 34)=W0:=⟨_,rfl⟩;obtain⟨hz0,hb0,hbx,hox⟩:=ZT w (.cells #[.pointer (some ⟨p.pb,0,none⟩),.pointer (some ⟨p.rb,0,none⟩)] 56) (.cells #[.int .i64 24,.int .i64 a,.int .i64 b,.int .i64 d,.string s,.slice lp ln lc,.int .i64 fa,.int .i64 fk,.bool fp,.int .i64 fns,.int .i64 fnr,.slice fq info.length fc,.int .i64 x0,.int .i64 x1,.int .i64 x2,.int .i64 x3,.int .i64 x4,.int .i64 x5] 34);rw[hW0]at hz0 hb0 hbx hox;have h0:=h.later hb0;have hcok:=h.cok hp;have hok:=(h.ok p (Xl hp)).1;have hev1:=hev.1;have hev2:=hev.2;have b0:W0.cell? ⟨w.heap.size,0,none⟩=some (.pointer (some ⟨p.pb,0,none⟩)):=by rw[Lib.cell_of_heap hbx];rfl
 have b1:W0.cell? ⟨w.heap.size,1,none⟩=some (.pointer (some ⟨p.rb,0,none⟩)):=by rw[Lib.cell_of_heap hbx];rfl
 have o0:W0.cell? ⟨w.heap.size+1,0,none⟩=some (.int .i64 24):=by rw[Lib.cell_of_heap hox];rfl
 have o2:W0.cell? ⟨w.heap.size+1,2,none⟩=some (.int .i64 b):=by rw[Lib.cell_of_heap hox];rfl
 have o4:W0.cell? ⟨w.heap.size+1,4,none⟩=some (.string s):=by rw[Lib.cell_of_heap hox];rfl
 have hown:∀k,w.heap.size≤k→own k=0:=h.Xp;have htop:=h.top;obtain⟨en,hen⟩:∃en,(if p.cl then 8 else 0)=en:=⟨_,rfl⟩;obtain⟨s',hs'⟩:∃s',(if p.cl then p.s else Qz p.c (b==1) p.s)=s':=⟨_,rfl⟩
 have hok':St.ok p.c s':=by
  rw[← hs'];split
  ·exact hok
  ·exact Xmv hok _
 obtain⟨ch,q,cm,oo,ev,qe,ce,oe,hS⟩:=h0.st n p hp;have k1:=Xmw hS (b==1) hl;rw[hen,hs']at k1;have K1:=hide k1;have H0:=hide h0;have HBX:=hide hbx;have HOX:=hide hox;have HB0:=hide hb0;rw[hs'];unfold Yb opV;simp only;clear h h0 hbx hox hS k1 ch q cm oo ev qe ce oe hb0;go_enter Tryz.func22,Tryz.ntmps22
 generalize hnB:w.heap.size=nB at*;go_wp2_with fail
 refine(Xa K1).mono ?_;intro e W1 hans;obtain⟨rfl,own1,h1,hc1,hb1⟩:=(Xa H0).ans hp hok' hans;dsimp only
 clear hans K1;have hz1:=hc1.keeps.size;have hbx1:=(hc1.keeps.block nB (by omega) (fun e=>e (hown _ (by omega)))).trans (Xa HBX);have hox1:=(hc1.keeps.block (nB+1) (by omega) (fun e=>e (hown _ (by omega)))).trans (Xa HOX);have b1':W1.cell? ⟨nB,1,none⟩=some (.pointer (some ⟨p.rb,0,none⟩)):=by rw[Lib.cell_of_heap hbx1];rfl
 have o2':W1.cell? ⟨nB+1,2,none⟩=some (.int .i64 b):=by rw[Lib.cell_of_heap hox1];rfl
 have hp1:(ps.set n {p with s:=s'})[n]?=some {p with s:=s'}:=Yq hp;obtain⟨q,cm,oo,ev,ce,oe,hT⟩:=h1.rt n _ hp1;simp only at hT;rw[hev1,hev2]at hT;have k2:=XlU hT (b==1) hl;rw[hen,hs']at k2;have K2:=hide k2;have HA:=hide (And.intro h1 (And.intro hc1 hb1));clear h1 hc1 hb1 hbx1 hox1 hT k2 q cm oo ev ce oe;go_wp2_with fail
 refine(Xa K2).mono ?_;intro e W2 hans;obtain⟨h1,hc1,hb1⟩:=Xa HA;obtain⟨rfl,own2,h2,hc2,hb2⟩:=h1.Xds hp1 hok' hans;dsimp only
 have HZ:Hid (Now B w wb own ss x (ps.set n (p.to s')) W2):=by
  have q:=XcH hev hc1 hb1 h2 hc2 hb2;exact q.of (by rw[hnB];exact Xa HB0) (by omega)
 clear hans K2 h1 hc1 hb1 h2 hc2 hb2 HA;go_wp2
 go_ret
 exact⟨rfl,Xa HZ⟩
theorem Xkn {B:Nat}{w:World}{wb:Nat}{own:Nat→Nat}{ss:Value}{x:Lw}{ps:List Post}(h:Xx B w wb own ss x ps){n:Nat}{p:Post}(hp:ps[n]?=some p)(hev:p.even)(o:OpV)(hlv:∃lp ln lc,o.lv=.slice lp ln lc)(hk:o.kind=26)(hs:o.s.size≤1048576)(hl:p.s.out.length+32≤2199023255552)(hl2:p.s.events.length+2≤2199023255552):
  Calls Tryz.prog 22 #[Yb p,opV o] w fun e w'=>e=.returned (.bool true)∧Now B w wb own ss x (ps.set n (p.to (if p.cl then p.s else(Yy p.c o.s.data.toList p.s).2))) w':=by
 obtain⟨lp,ln,lc,hlv⟩:=hlv;obtain⟨kind,a,b,d,s,lv,⟨fa,fk,fp,fns,fnr,info⟩,fq,fc,x0,x1,x2,x3,x4,x5⟩:=o;simp only at hlv hk hs⊢;subst hlv hk;obtain⟨W0,hW0⟩:∃W0,(w.alloc (.cells #[.pointer (some ⟨p.pb,0,none⟩),.pointer (some ⟨p.rb,0,none⟩)] 56)).alloc (.cells #[.int .i64 26,.int .i64 a,.int .i64 b,.int .i64 d,.string s,.slice lp ln lc,.int .i64 fa,.int .i64 fk,.bool fp,.int .i64 fns,.int .i64 fnr,.slice fq info.length fc,.int .i64 x0,.int .i64 x1,.int .i64 x2,.int .i64 x3,.int .i64 x4,.int .i64 x5] 34)=W0:=⟨_,rfl⟩;obtain⟨hz0,hb0,hbx,hox⟩:=ZT w (.cells #[.pointer (some ⟨p.pb,0,none⟩),.pointer (some ⟨p.rb,0,none⟩)] 56) (.cells #[.int .i64 26,.int .i64 a,.int .i64 b,.int .i64 d,.string s,.slice lp ln lc,.int .i64 fa,.int .i64 fk,.bool fp,.int .i64 fns,.int .i64 fnr,.slice fq info.length fc,.int .i64 x0,.int .i64 x1,.int .i64 x2,.int .i64 x3,.int .i64 x4,.int .i64 x5] 34);rw[hW0]at hz0 hb0 hbx hox;have h0:=h.later hb0;have hcok:=h.cok hp;have hok:=(h.ok p (Xl hp)).1;have hev1:=hev.1;have hev2:=hev.2;have b0:W0.cell? ⟨w.heap.size,0,none⟩=some (.pointer (some ⟨p.pb,0,none⟩)):=by rw[Lib.cell_of_heap hbx];rfl
 have b1:W0.cell? ⟨w.heap.size,1,none⟩=some (.pointer (some ⟨p.rb,0,none⟩)):=by rw[Lib.cell_of_heap hbx];rfl
 have o0:W0.cell? ⟨w.heap.size+1,0,none⟩=some (.int .i64 26):=by rw[Lib.cell_of_heap hox];rfl
 have o2:W0.cell? ⟨w.heap.size+1,2,none⟩=some (.int .i64 b):=by rw[Lib.cell_of_heap hox];rfl
 have o4:W0.cell? ⟨w.heap.size+1,4,none⟩=some (.string s):=by rw[Lib.cell_of_heap hox];rfl
 have hown:∀k,w.heap.size≤k→own k=0:=h.Xp;have htop:=h.top;have k1:=Xcm h0 hp hev s b hs hl hl2;obtain⟨s',hs'⟩:∃s',(if p.cl then p.s else(Yy p.c s.data.toList p.s).2)=s':=⟨_,rfl⟩;unfold Yb at k1;rw[hs']at k1⊢;have K1:=hide k1;have HB0:=hide hb0;unfold Yb opV;simp only;clear h h0 hbx hox k1 hb0;go_enter Tryz.func22,Tryz.ntmps22
 generalize hnB:w.heap.size=nB at*;go_wp2_with fail
 refine(Xa K1).mono ?_;rintro e W1 ⟨rfl,hn⟩;dsimp only
 have HZ:=hide (hn.of (by rw[hnB];exact Xa HB0) (by omega));clear hn K1;go_wp2
 go_ret
 exact⟨rfl,Xa HZ⟩
theorem XiV {B:Nat}{w:World}{wb:Nat}{own:Nat→Nat}{ss:Value}{x:Lw}{ps:List Post}(h:Xx B w wb own ss x ps){n:Nat}{p:Post}(hp:ps[n]?=some p)(hev:p.even)(o:OpV)(hlv:∃lp ln lc,o.lv=.slice lp ln lc)(hk:o.kind=27)(hsrc:Qn w o.fq o.f.info)(hsb:∀V,Below w.heap.size w V→Qn V o.fq o.f.info)(hl:p.s.out.length+32≤2199023255552)(hl2:p.s.events.length+2≤2199023255552):
  Calls Tryz.prog 22 #[Yb p,opV o] w fun e w'=>e=.returned (.bool true)∧Now B w wb own ss x (ps.set n (p.to (if p.cl∨(XT o.b o.f).1≠0 then p.s else(Yy p.c (XT o.b o.f).2 p.s).2))) w':=by
 obtain⟨lp,ln,lc,hlv⟩:=hlv;obtain⟨kind,a,b,d,s,lv,⟨fa,fk,fp,fns,fnr,info⟩,fq,fc,x0,x1,x2,x3,x4,x5⟩:=o;simp only at hlv hk hsrc hsb⊢;subst hlv hk;obtain⟨W0,hW0⟩:∃W0,(w.alloc (.cells #[.pointer (some ⟨p.pb,0,none⟩),.pointer (some ⟨p.rb,0,none⟩)] 56)).alloc (.cells #[.int .i64 27,.int .i64 a,.int .i64 b,.int .i64 d,.string s,.slice lp ln lc,.int .i64 fa,.int .i64 fk,.bool fp,.int .i64 fns,.int .i64 fnr,.slice fq info.length fc,.int .i64 x0,.int .i64 x1,.int .i64 x2,.int .i64 x3,.int .i64 x4,.int .i64 x5] 34)=W0:=⟨_,rfl⟩;obtain⟨hz0,hb0,hbx,hox⟩:=ZT w (.cells #[.pointer (some ⟨p.pb,0,none⟩),.pointer (some ⟨p.rb,0,none⟩)] 56) (.cells #[.int .i64 27,.int .i64 a,.int .i64 b,.int .i64 d,.string s,.slice lp ln lc,.int .i64 fa,.int .i64 fk,.bool fp,.int .i64 fns,.int .i64 fnr,.slice fq info.length fc,.int .i64 x0,.int .i64 x1,.int .i64 x2,.int .i64 x3,.int .i64 x4,.int .i64 x5] 34);rw[hW0]at hz0 hb0 hbx hox;have h0:=h.later hb0;have hcok:=h.cok hp;have hok:=(h.ok p (Xl hp)).1;have hev1:=hev.1;have hev2:=hev.2;have b0:W0.cell? ⟨w.heap.size,0,none⟩=some (.pointer (some ⟨p.pb,0,none⟩)):=by rw[Lib.cell_of_heap hbx];rfl
 have b1:W0.cell? ⟨w.heap.size,1,none⟩=some (.pointer (some ⟨p.rb,0,none⟩)):=by rw[Lib.cell_of_heap hbx];rfl
 have o0:W0.cell? ⟨w.heap.size+1,0,none⟩=some (.int .i64 27):=by rw[Lib.cell_of_heap hox];rfl
 have o2:W0.cell? ⟨w.heap.size+1,2,none⟩=some (.int .i64 b):=by rw[Lib.cell_of_heap hox];rfl
 have o4:W0.cell? ⟨w.heap.size+1,4,none⟩=some (.string s):=by rw[Lib.cell_of_heap hox];rfl
 have hown:∀k,w.heap.size≤k→own k=0:=h.Xp;have htop:=h.top;have k1:=Xa2 b ⟨fa,fk,fp,fns,fnr,info⟩ fq fc W0 (hsb W0 hb0);unfold frV at k1;simp only at k1;have hwl:=Xei b ⟨fa,fk,fp,fns,fnr,info⟩;generalize hwr:XT b ⟨fa,fk,fp,fns,fnr,info⟩=wl at*;obtain⟨er,l⟩:=wl;simp only at k1 hwl⊢;have K1:=hide k1;have H0:=hide h0;have HBX:=hide hbx;have HB0:=hide hb0;have o6:W0.cell? ⟨w.heap.size+1,6,none⟩=some (.int .i64 fa):=by rw[Lib.cell_of_heap hox];rfl
 have o7:W0.cell? ⟨w.heap.size+1,7,none⟩=some (.int .i64 fk):=by rw[Lib.cell_of_heap hox];rfl
 have o8:W0.cell? ⟨w.heap.size+1,8,none⟩=some (.bool fp):=by rw[Lib.cell_of_heap hox];rfl
 have o9:W0.cell? ⟨w.heap.size+1,9,none⟩=some (.int .i64 fns):=by rw[Lib.cell_of_heap hox];rfl
 have o10:W0.cell? ⟨w.heap.size+1,10,none⟩=some (.int .i64 fnr):=by rw[Lib.cell_of_heap hox];rfl
 have o11:W0.cell? ⟨w.heap.size+1,11,none⟩=some (.slice fq info.length fc):=by rw[Lib.cell_of_heap hox];rfl
 have HEV:=hide hev;unfold Yb opV;simp only;clear h h0 hbx hox k1 hb0 hsrc hsb hwr;by_cases her:er=0
 ·subst her;simp only[ne_eq,not_true_eq_false,or_false];obtain⟨s',hs'⟩:∃s',(if p.cl then p.s else(Yy p.c l p.s).2)=s':=⟨_,rfl⟩;rw[hs'];go_enter Tryz.func22,Tryz.ntmps22
  generalize hnB:w.heap.size=nB at*;go_wp2_with fail
  refine(Xa K1).mono ?_;rintro e W1 ⟨v,rfl,hrow,_,hb1⟩;dsimp only
  have hz1:=hb1.size;have hbx1:=(hb1.block nB (by omega)).trans (Xa HBX);have b0':W1.cell? ⟨nB,0,none⟩=some (.pointer (some ⟨p.pb,0,none⟩)):=by rw[Lib.cell_of_heap hbx1];rfl
  have b1':W1.cell? ⟨nB,1,none⟩=some (.pointer (some ⟨p.rb,0,none⟩)):=by rw[Lib.cell_of_heap hbx1];rfl
  obtain⟨vp,vc,rfl,_⟩:=Xf hrow;have cv:=XaA (f:=(0,l)) hrow 0;have cv0:(convert 28 9 (.slice vp l.length vc)).run Tryz.prog W1=.ok (.string ⟨l.toArray⟩) W1:=cv;have k2:=Xcm ((Xa H0).later hb1) hp (Xa HEV) ⟨l.toArray⟩ 0 (by simp[ByteArray.size];omega) hl hl2;unfold Yb at k2;rw[hs']at k2;have K2:=hide k2;have HB1:=hide hb1;clear k2 hrow hbx1 cv hb1 K1 o6 o7 o8 o9 o10 o11;go_wp2_with fail
  refine(Xa K2).mono ?_;rintro e W2 ⟨rfl,hn⟩;dsimp only
  have HZ:=hide ((hn.of (Xa HB1) (by omega)).of (by rw[hnB];exact Xa HB0) (by omega));clear hn K2;go_wp2
  go_ret
  exact⟨rfl,Xa HZ⟩
 ·have e0:(if p.cl=true∨er≠0 then p.s else(Yy p.c l p.s).2)=p.s:=if_pos (.inr her);rw[e0]
  have epp:p.to p.s=p:=by
   obtain⟨e1,e2⟩:=Xa HEV;obtain⟨ypb,yrb,yc,ys,ycl,yt,ydl⟩:=p;simp only at e1;subst e1;rfl
  rw[epp,set_self hp];have hne:((er:Int) != 0)=true:=by simpa using her
  have hneI:(er:Int)≠0:=by omega
  go_enter Tryz.func22,Tryz.ntmps22
  generalize hnB:w.heap.size=nB at*;go_wp2_with fail
  refine(Xa K1).mono ?_;rintro e W1 ⟨v,rfl,hrow,hnil,hb1⟩;dsimp only
  have hv:=hnil her;subst hv;have HZ:Hid (Now B w wb own ss x ps W1):=((Now.refl ((Xa H0).later hb1)).of hb1 (by have:=hb1.size;omega)).of (by rw[hnB];exact Xa HB0) (by omega);clear hrow hnil hb1 K1;go_wp2
  go_ret
  exact⟨rfl,Xa HZ⟩
theorem XiU {B:Nat}{w:World}{wb:Nat}{own:Nat→Nat}{ss:Value}{x:Lw}{ps:List Post}(h:Xx B w wb own ss x ps){n:Nat}{p:Post}(hp:ps[n]?=some p)(hev:p.even)(o:OpV)(hlv:∃lp ln lc,o.lv=.slice lp ln lc)(hk:o.kind=33):
  Calls Tryz.prog 22 #[Yb p,opV o] w fun e w'=>e=.returned (.bool true)∧Now B w wb own ss x (ps.set n {p with cl:=true,dl:=true}) w':=by
 obtain⟨lp,ln,lc,hlv⟩:=hlv;obtain⟨kind,a,b,d,s,lv,⟨fa,fk,fp,fns,fnr,info⟩,fq,fc,x0,x1,x2,x3,x4,x5⟩:=o;simp only at hlv hk;subst hlv hk;obtain⟨W0,hW0⟩:∃W0,(w.alloc (.cells #[.pointer (some ⟨p.pb,0,none⟩),.pointer (some ⟨p.rb,0,none⟩)] 56)).alloc (.cells #[.int .i64 33,.int .i64 a,.int .i64 b,.int .i64 d,.string s,.slice lp ln lc,.int .i64 fa,.int .i64 fk,.bool fp,.int .i64 fns,.int .i64 fnr,.slice fq info.length fc,.int .i64 x0,.int .i64 x1,.int .i64 x2,.int .i64 x3,.int .i64 x4,.int .i64 x5] 34)=W0:=⟨_,rfl⟩;obtain⟨hz0,hb0,hbx,hox⟩:=ZT w (.cells #[.pointer (some ⟨p.pb,0,none⟩),.pointer (some ⟨p.rb,0,none⟩)] 56) (.cells #[.int .i64 33,.int .i64 a,.int .i64 b,.int .i64 d,.string s,.slice lp ln lc,.int .i64 fa,.int .i64 fk,.bool fp,.int .i64 fns,.int .i64 fnr,.slice fq info.length fc,.int .i64 x0,.int .i64 x1,.int .i64 x2,.int .i64 x3,.int .i64 x4,.int .i64 x5] 34);rw[hW0]at hz0 hb0 hbx hox;have h0:=h.later hb0;have hcok:=h.cok hp;have hok:=(h.ok p (Xl hp)).1;have hev1:=hev.1;have hev2:=hev.2;have b0:W0.cell? ⟨w.heap.size,0,none⟩=some (.pointer (some ⟨p.pb,0,none⟩)):=by rw[Lib.cell_of_heap hbx];rfl
 have b1:W0.cell? ⟨w.heap.size,1,none⟩=some (.pointer (some ⟨p.rb,0,none⟩)):=by rw[Lib.cell_of_heap hbx];rfl
 have o0:W0.cell? ⟨w.heap.size+1,0,none⟩=some (.int .i64 33):=by rw[Lib.cell_of_heap hox];rfl
 have o2:W0.cell? ⟨w.heap.size+1,2,none⟩=some (.int .i64 b):=by rw[Lib.cell_of_heap hox];rfl
 have o4:W0.cell? ⟨w.heap.size+1,4,none⟩=some (.string s):=by rw[Lib.cell_of_heap hox];rfl
 have hown:∀k,w.heap.size≤k→own k=0:=h.Xp;have htop:=h.top;obtain⟨en,hen⟩:∃en,(if p.cl then 8 else 0)=en:=⟨_,rfl⟩;obtain⟨ch,q,cm,oo,ev,qe,ce,oe,hS⟩:=h0.st n p hp
 have k1:Calls Tryz.prog 59 #[.pointer (some ⟨p.pb,0,none⟩)] W0 fun e w'=>e=.returned (.int .i64 (en:Nat))∧Now B W0 wb own ss x (ps.set n {p with cl:=true}) w':=by
  refine(close_any hS).mono ?_;intro e w' ha;rw[← hen];by_cases hcl:p.cl=true
  ·rw[if_pos hcl]at ha⊢;obtain⟨rfl,rfl⟩:=ha;have e1:({p with cl:=true}:Post)=p:=by rw[← hcl]
   rw[e1,set_self hp];exact⟨rfl,Now.refl h0⟩
  ·rw[if_neg hcl]at ha⊢;obtain⟨rfl,hs,hu⟩:=ha;obtain⟨g1,g2⟩:=h0.called hp hu.f (⟨_,_,_,_,_,_,_,_,hs⟩:Stn w' own (2*n) p.pb p.c p.s true) hok;exact⟨rfl,own,g1,hu.f.calm,g2⟩
 have K1:=hide k1;have HBX:=hide hbx;have HB0:=hide hb0;unfold Yb opV;simp only;clear h h0 hbx hox hS k1 ch q cm oo ev qe ce oe hb0;go_enter Tryz.func22,Tryz.ntmps22
 generalize hnB:w.heap.size=nB at*;go_wp2_with fail
 refine(Xa K1).mono ?_;rintro e W1 ⟨rfl,own1,h1,hc1,hb1⟩;dsimp only
 clear K1;have hz1:=hc1.keeps.size;have hbx1:=(hc1.keeps.block nB (by omega) (fun e=>e (hown _ (by omega)))).trans (Xa HBX);have b1':W1.cell? ⟨nB,1,none⟩=some (.pointer (some ⟨p.rb,0,none⟩)):=by rw[Lib.cell_of_heap hbx1];rfl
 have hp1:(ps.set n {p with cl:=true})[n]?=some {p with cl:=true}:=Yq hp;obtain⟨q,cm,oo,ev,ce,oe,hT⟩:=h1.rt n _ hp1;simp only at hT;rw[hev1,hev2]at hT;have k2:=Xj5 hT;rw[hen]at k2;have K2:=hide k2;have HA:=hide (And.intro h1 (And.intro hc1 hb1));clear h1 hc1 hb1 hbx1 hT k2 q cm oo ev ce oe;go_wp2_with fail
 refine(Xa K2).mono ?_;intro e W2 hans;obtain⟨h1,hc1,hb1⟩:=Xa HA;obtain⟨rfl,own2,h2,hc2,hb2⟩:=h1.Xds hp1 hok hans;dsimp only
 have HZ:Hid (Now B w wb own ss x (ps.set n {p with cl:=true,dl:=true}) W2):=by
  have q:Now B W0 wb own ss x (ps.set n {p with cl:=true,dl:=true}) W2:=by
   refine⟨own2,?_,hc1.trans hc2,hb1.trans hb2⟩;rw[List.set_set]at h2
   have e:({p with cl:=true,dl:=true}:Post)={({p with cl:=true}:Post)with t:=p.s,dl:=true}:=by
    obtain⟨ypb,yrb,yc,ys,ycl,yt,ydl⟩:=p;simp only at hev1;subst hev1;rfl
   rw[e];exact h2
  exact q.of (by rw[hnB];exact Xa HB0) (by omega)
 clear hans K2 h1 hc1 hb1 h2 hc2 hb2 HA;go_wp2
 go_ret
 exact⟨rfl,Xa HZ⟩
def Yw (c:Cfg)(cl:Bool)(s:St)(M:List Msg):St:=M.foldl (fun s m=>if cl then s else(Yy c m s).2) s
theorem Xgt (c:Cfg)(cl:Bool)(s:St)(M:List Msg)(m:Msg):Yw c cl s (M++[m])=if cl then Yw c cl s M else(Yy c m (Yw c cl s M)).2:=by
 simp[Yw,List.foldl_append]
theorem XbY (c:Cfg)(cl:Bool)(s:St)(M:List Msg):Xo (18*M.length) (2*M.length) s (Yw c cl s M):=by
 induction M generalizing s with
 |nil=>exact Xo.same rfl rfl
 |cons m r ih=>
  have h1:Xo 18 2 s (if cl then s else(Yy c m s).2):=by
   split
   ·exact Xo.same rfl rfl
   ·exact XcY m
  exact(h1.trans (ih _)).mono (by simp only[List.length_cons];omega) (by simp only[List.length_cons];omega)
theorem Xo.out {a e:Nat}{s t:St}(h:Xo a e s t):t.out.length≤s.out.length+a:=by
 obtain⟨⟨x,h1,h2,_⟩,_⟩:=h;rw[h1,List.length_append];omega
theorem Xo.events {a e:Nat}{s t:St}(h:Xo a e s t):t.events.length≤s.events.length+e:=by
 obtain⟨_,y,h1,h2⟩:=h;rw[h1,List.length_append];omega
def XiC (B:Nat)(w:World)(wb:Nat)(ss:Value)(x:Lw)(ps1:List Post)(L:List Msg)(w':World):Prop:=
 ∃ny y M own' x',ps1[ny]?=some y∧M.Sublist L∧Xx B w' wb own' ss x' (ps1.set ny (y.to (Yw y.c y.cl y.s M)))∧Grew x x' L.length 0 1 0∧Below B w w'
structure JM (B:Nat)(w:World)(wb:Nat)(ss:Value)(x:Lw)(ps1:List Post)(ny:Nat)(y:Post)(L:List Msg)(m:Value)(me:List Value)(bx:Nat)(ob:Obj)(ox:Nat)(oo:Obj)(k:Nat)(wr:World)(own':Nat→Nat)(x':Lw)(M:List Msg):Prop where
 sub:M.Sublist (L.take k)
 gw:Xx B wr wb own' ss x' (ps1.set ny (y.to (Yw y.c y.cl y.s M)))
 lst:Lst wr own' 0 m me L
 grew:Grew x x' L.length 0 1 0
 bel:Below B w wr
 box:wr.heap[bx]?=some ob∧own' bx=0
 obox:wr.heap[ox]?=some oo∧own' ox=0
section
variable {B:Nat}{w:World}{wb:Nat}{ss:Value}{x:Lw}{ps1:List Post}{ny:Nat}{y:Post}{L:List Msg}{m:Value}{me:List Value}{bx:Nat}{ob:Obj}{ox:Nat}{oo:Obj}{k:Nat}{wr:World}{own':Nat→Nat}{x':Lw}{M:List Msg}
theorem JM.later (h:JM B w wb ss x ps1 ny y L m me bx ob ox oo k wr own' x' M){w':World}(hb:Below wr.heap.size wr w'):JM B w wb ss x ps1 ny y L m me bx ob ox oo k w' own' x' M:=
 ⟨h.sub,h.gw.later hb,(Calm.of hb).lst h.lst,h.grew,h.bel.trans (hb.mono h.gw.top),⟨(hb.block bx (Array.getElem?_eq_some_iff.1 h.box.1).1).trans h.box.1,h.box.2⟩,⟨(hb.block ox (Array.getElem?_eq_some_iff.1 h.obox.1).1).trans h.obox.1,h.obox.2⟩⟩
theorem JM.skip (h:JM B w wb ss x ps1 ny y L m me bx ob ox oo k wr own' x' M):JM B w wb ss x ps1 ny y L m me bx ob ox oo (k+1) wr own' x' M:=
 ⟨h.sub.trans (by rw[List.take_add_one];exact List.sublist_append_left _ _),h.gw,h.lst,h.grew,h.bel,h.box,h.obox⟩
theorem JM.hears (h:JM B w wb ss x ps1 ny y L m me bx ob ox oo k wr own' x' M)(hy:ps1[ny]?=some y)(hev:y.even)(hk:k<L.length)(hLm:∀m∈L,m.length≤1048576)(hO:y.s.out.length+18*L.length+32≤2199023255552)(hE:y.s.events.length+2*L.length+2≤2199023255552){V:World}(hV:Below wr.heap.size wr V):
  Calls Tryz.prog 45 #[Yb y,.string ⟨L[k].toArray⟩,.int .i64 0] V fun e w'=>e=.returned (.bool true)∧∃own2 M2,JM B w wb ss x ps1 ny y L m me bx ob ox oo (k+1) w' own2 x' M2:=by
 have hA:=h.later hV;have hg:=XbY y.c y.cl y.s M
 have hml:M.length≤L.length:=by
  have:=h.sub.length_le;rw[List.length_take]at this;omega
 have hp1:(ps1.set ny (y.to (Yw y.c y.cl y.s M)))[ny]?=some (y.to (Yw y.c y.cl y.s M)):=Yq hy;refine(Xcm hA.gw hp1 ⟨rfl,hev.2⟩ ⟨L[k].toArray⟩ 0 (by have:=hLm _ (List.getElem_mem hk);simpa[ByteArray.size]using this) ?_ ?_).mono ?_
 ·have:=hg.out;show(Yw y.c y.cl y.s M).out.length+32≤_
  omega
 ·have:=hg.events;show(Yw y.c y.cl y.s M).events.length+2≤_
  omega
 ·rintro e w' ⟨rfl,own2,q1,q2,q3⟩;rw[List.set_set]at q1;refine⟨rfl,own2,M++[L[k]],?_,?_,q2.lst hA.lst,h.grew,hA.bel.trans q3,?_,?_⟩
  ·rw[List.take_add_one,List.getElem?_eq_getElem hk];exact h.sub.append (List.Sublist.refl _)
  ·rw[Xgt];exact q1
  ·have hl:=(Array.getElem?_eq_some_iff.1 hA.box.1).1;exact⟨(q2.keeps.block bx hl (fun e=>e hA.box.2)).trans hA.box.1,q2.zero bx hl hA.box.2⟩
  ·have hl:=(Array.getElem?_eq_some_iff.1 hA.obox.1).1;exact⟨(q2.keeps.block ox hl (fun e=>e hA.obox.2)).trans hA.obox.1,q2.zero ox hl hA.obox.2⟩
theorem JM.cell (h:JM B w wb ss x ps1 ny y L m me bx ob ox oo k wr own' x' M){mp:Option Addr}{mc:Nat}(hm:m=.slice mp L.length mc)(hk:k<L.length):∃g p1 q1,mp=some ⟨g,0,none⟩∧wr.cell? ⟨g,k,none⟩=some (.slice p1 L[k].length q1)∧
  (∀ N,(convert 28 9 (.slice p1 L[k].length q1)).run Tryz.prog (wr.drewN N)=.ok (.string ⟨L[k].toArray⟩) (wr.drewN N)):=by
 subst hm;obtain⟨pp,cc,e,hh⟩:=Xf h.lst.row;simp at e;obtain⟨g,hg⟩:=hh (by omega);rw[hg]at e;obtain⟨rfl,rfl⟩:=e;have e1:=h.lst.len;have d1:=World.ownsRow.cells h.lst.row (g:=g) rfl k _ (List.getElem?_eq_getElem (show k<me.length by omega));rw[Go.WideShapes.add_plain,Nat.zero_add]at d1;obtain⟨p1,q1,e3,hv1⟩:=(h.lst.each k _ L[k] (List.getElem?_eq_getElem (show k<me.length by omega)) (List.getElem?_eq_getElem hk)).conv;rw[e3]at d1;exact⟨g,p1,q1,rfl,d1,hv1⟩
end
theorem Xko {B:Nat}{w:World}{wb:Nat}{own:Nat→Nat}{ss:Value}{x:Lw}{ps:List Post}(h:Xx B w wb own ss x ps){n:Nat}{p:Post}(hp:ps[n]?=some p)(hev:p.even)(o:OpV)(hlv:∃lp ln lc,o.lv=.slice lp ln lc)(hk:o.kind=23)(hs:o.s.size≤1048576)(hl:p.s.out.length+18≤2199023255552):
  Calls Tryz.prog 22 #[Yb p,opV o] w fun e w'=>e=.returned (.bool true)∧Now B w wb own ss x (ps.set n (p.to (if p.cl then p.s else(Qa p.c o.s.data.toList p.s).2))) w':=by
 obtain⟨lp,ln,lc,hlv⟩:=hlv;obtain⟨kind,a,b,d,s,lv,⟨fa,fk,fp,fns,fnr,info⟩,fq,fc,x0,x1,x2,x3,x4,x5⟩:=o;simp only at hlv hk hs⊢;subst hlv hk;obtain⟨W0,hW0⟩:∃W0,(w.alloc (.cells #[.pointer (some ⟨p.pb,0,none⟩),.pointer (some ⟨p.rb,0,none⟩)] 56)).alloc (.cells #[.int .i64 23,.int .i64 a,.int .i64 b,.int .i64 d,.string s,.slice lp ln lc,.int .i64 fa,.int .i64 fk,.bool fp,.int .i64 fns,.int .i64 fnr,.slice fq info.length fc,.int .i64 x0,.int .i64 x1,.int .i64 x2,.int .i64 x3,.int .i64 x4,.int .i64 x5] 34)=W0:=⟨_,rfl⟩;obtain⟨hz0,hb0,hbx,hox⟩:=ZT w (.cells #[.pointer (some ⟨p.pb,0,none⟩),.pointer (some ⟨p.rb,0,none⟩)] 56) (.cells #[.int .i64 23,.int .i64 a,.int .i64 b,.int .i64 d,.string s,.slice lp ln lc,.int .i64 fa,.int .i64 fk,.bool fp,.int .i64 fns,.int .i64 fnr,.slice fq info.length fc,.int .i64 x0,.int .i64 x1,.int .i64 x2,.int .i64 x3,.int .i64 x4,.int .i64 x5] 34);rw[hW0]at hz0 hb0 hbx hox;have h0:=h.later hb0;have hcok:=h.cok hp;have hok:=(h.ok p (Xl hp)).1;have hev1:=hev.1;have hev2:=hev.2;have b0:W0.cell? ⟨w.heap.size,0,none⟩=some (.pointer (some ⟨p.pb,0,none⟩)):=by rw[Lib.cell_of_heap hbx];rfl
 have b1:W0.cell? ⟨w.heap.size,1,none⟩=some (.pointer (some ⟨p.rb,0,none⟩)):=by rw[Lib.cell_of_heap hbx];rfl
 have o0:W0.cell? ⟨w.heap.size+1,0,none⟩=some (.int .i64 23):=by rw[Lib.cell_of_heap hox];rfl
 have o2:W0.cell? ⟨w.heap.size+1,2,none⟩=some (.int .i64 b):=by rw[Lib.cell_of_heap hox];rfl
 have o4:W0.cell? ⟨w.heap.size+1,4,none⟩=some (.string s):=by rw[Lib.cell_of_heap hox];rfl
 have hown:∀k,w.heap.size≤k→own k=0:=h.Xp;have htop:=h.top;have hsl:s.data.toList.length=s.size:=by simp
 obtain⟨en,hen⟩:∃en,(if p.cl then 8 else(Qa p.c s.data.toList p.s).1)=en:=⟨_,rfl⟩;obtain⟨s',hs'⟩:∃s',(if p.cl then p.s else(Qa p.c s.data.toList p.s).2)=s':=⟨_,rfl⟩
 have hok':St.ok p.c s':=by
  rw[← hs'];split
  ·exact hok
  ·exact Xnj hcok hok _
 rw[hs'];have H0:=hide h0;have HW:=hide h;have HBX:=hide hbx;have HOX:=hide hox;have HB0:=hide hb0;unfold Yb opV;simp only;clear h h0 hbx hox hb0;go_enter Tryz.func22,Tryz.ntmps22
 generalize hnB:w.heap.size=nB at*;go_wp2_with fail
 refine(Xac s b W0 (by omega)).mono ?_;rintro e W2 ⟨lq,lcp,rfl,hlent,hb2⟩;dsimp only
 have hz2:=hb2.size;have hbx2:=(hb2.block nB (by omega)).trans (Xa HBX);have hox2:=(hb2.block (nB+1) (by omega)).trans (Xa HOX);have h2:=(Xa H0).later hb2;have b0':W2.cell? ⟨nB,0,none⟩=some (.pointer (some ⟨p.pb,0,none⟩)):=by rw[Lib.cell_of_heap hbx2];rfl
 obtain⟨ch,q,cm,oo,ev,qe,ce,oe,hS⟩:=h2.st n p hp;have hH:=XlC hS lq lcp s.data.toList hlent.src (by omega) hl;rw[hsl,hen,hs']at hH;have HH1:=hide hH;have HF:=hide (And.intro h2 (And.intro hlent (And.intro hbx2 (And.intro hox2 hb2))));clear hbx2 hox2 hb2 h2 hlent hS hH ch q cm oo ev qe ce oe;go_wp2_with fail
 refine(Xa HH1).mono ?_;intro e W3 hans;obtain⟨h2,hlent,hbx2,hox2,hb2⟩:=Xa HF;obtain⟨rfl,own3,h3,hc3,hb3⟩:=h2.ans hp hok' hans;dsimp only
 clear HH1 HF b0' hans;have hz3:=hc3.keeps.size;have hbx3:=(hc3.keeps.block nB (by omega) (fun hh=>hh (hown _ (by omega)))).trans hbx2;have hox3:=(hc3.keeps.block (nB+1) (by omega) (fun hh=>hh (hown _ (by omega)))).trans hox2
 have hlb:∀a,lq=some a→W0.heap.size≤a.block∧a.block<W2.heap.size:=by
  intro a ha;rcases hlent with⟨e,_⟩|⟨g,e,_,hg,hr⟩
  ·rw[e]at ha;simp at ha
  ·rw[e]at ha;simp at ha;subst ha;exact⟨hg,hr.lt⟩
 have hlent3:=hlent.keeps hc3.keeps (fun a ha hh=>hh (hown _ (by have:=(hlb a ha).1;omega)));have hwh:=JL hlent3 (by omega);have o4':W3.cell? ⟨nB+1,4,none⟩=some (.string s):=by rw[Lib.cell_of_heap hox3];rfl
 have HWH:=hide hwh;have HF:=hide (And.intro h2 (And.intro h3 (And.intro hc3 (And.intro hb3 (And.intro hbx3 (And.intro hox3 (And.intro hb2 hlb)))))));clear h2 h3 hc3 hb3 hbx2 hox2 hbx3 hox3 hb2 hlb hlent hlent3 hwh;go_wp2_with fail
 refine(Xa HWH).mono ?_;rintro e W4 ⟨rfl,hk4,_⟩;dsimp only
 clear HWH;obtain⟨h2,h3,hc3,hb3,hbx3,hox3,hb2,hlb⟩:=Xa HF;clear HF;have hz4:=hk4.size
 have hX:∀k,some k=lq.map (·.block)→W0.heap.size≤k∧k<W2.heap.size:=by
  intro k hk;cases lq with
  |none=>simp at hk
  |some a=>simp at hk;subst hk;exact hlb a rfl
 have h4:Xx B W4 wb own3 ss x _:=h3.turned hk4 (fun k hk=>by
  have h1:=hX k hk;refine⟨hc3.zero k h1.2 (hown k (by omega)),by omega,fun hg=> ?_⟩;have:=((Xa HW).below hg).2;omega)
 have hbx4:=(hk4.block nB (by omega) (fun hh=>by have:=(hX _ hh).1;omega)).trans hbx3;have hox4:=(hk4.block (nB+1) (by omega) (fun hh=>by have:=(hX _ hh).1;omega)).trans hox3;have hcv:=Q8 W4 s;have hbW:=bytesWorld_below W4 s;have hsW:=ZC W4 s;have hG1:=grownCap_ge W4 s.size 0 5;have hzW:=Lib.bytesWorld_size W4 5 s;generalize grownCap W4 s.size 0 5=gc at hcv hG1;generalize Lib.bytesWorld W4 5 s=W5 at hcv hbW hsW hzW;have h5:=h4.later hbW;have hp5:(ps.set n {p with s:=s'})[n]?=some {p with s:=s'}:=Yq hp;obtain⟨q,cm,oo,ev,ce,oe,hT⟩:=h5.rt n _ hp5;simp only at hT;rw[hev1,hev2]at hT;have hH:=Xma hT hok W4.heap.size 0 gc s.data.toList hsW hl;rw[hsl,hen,hs']at hH;have b1':W4.cell? ⟨nB,1,none⟩=some (.pointer (some ⟨p.rb,0,none⟩)):=by rw[Lib.cell_of_heap hbx4];rfl
 have o4'':W4.cell? ⟨nB+1,4,none⟩=some (.string s):=by rw[Lib.cell_of_heap hox4];rfl
 have HH1:=hide hH;have hbel:Below B W0 W5:=(hb2.mono (by omega)).trans (hb3.trans (Below.trans ⟨hk4.os,hk4.tape,hk4.output,hk4.size,fun k hk=>hk4.block k (by omega) (fun hh=>by have:=(hX _ hh).1;omega)⟩ (hbW.mono (by omega))))
 have hcalm:Calm own own3 W0 W5:=by
  have hc:=(Calm.of (own:=own) hb2).trans hc3;have hzw:W0.heap.size≤W3.heap.size:=hc.keeps.size;refine⟨⟨hbW.os.trans (hk4.os.trans hc.keeps.os),hbW.tape.trans (hk4.tape.trans hc.keeps.tape),hbW.output.trans (hk4.output.trans hc.keeps.output),by omega,fun k hk hx=> ?_⟩,hc.zero⟩;rw[hbW.block k (by omega),hk4.block k (by omega) (fun hh=>by have:=(hX _ hh).1;omega)];exact hc.keeps.block k hk hx
 have HF:=hide (And.intro h5 (And.intro hbel hcalm));clear h2 h3 hc3 hb3 hbx3 hox3 hb2 hlb hk4 hX h4 hbx4 hox4 hbW hsW h5 hT hH hbel hcalm q cm oo ev ce oe o4';go_wp2_with fail
 refine(Xa HH1).mono ?_;intro e W6 hans;obtain⟨h5,hbel,hcalm⟩:=Xa HF;obtain⟨rfl,own6,h6,hc6,hb6⟩:=h5.Xds hp5 hok' hans;dsimp only
 have HZ:Hid (Now B w wb own ss x (ps.set n (p.to s')) W6):=by
  have q:=XcH hev hcalm hbel h6 hc6 hb6;exact q.of (by rw[hnB];exact Xa HB0) (by omega)
 clear HH1 HF hans hcv h5 h6 hc6 hb6 hbel hcalm hp5;go_wp2
 go_ret
 exact⟨rfl,Xa HZ⟩
def Yi (cl:Bool)(c:Cfg)(s:St):Nat→St
 |0=>s
 |k+1=>if cl then Yi cl c s k else Jd c (Yi cl c s k)
theorem XbV {cl:Bool}{c:Cfg}{s:St}(hc:c.ok)(h:s.ok c)(k:Nat):(Yi cl c s k).ok c:=by
 induction k with
 |zero=>exact h
 |succ k ih=>
  unfold Yi;split
  ·exact ih
  ·exact Xnp hc ih
theorem Jn (cl:Bool)(c:Cfg)(s:St)(k:Nat):Xo (18*k) (2*k) s (Yi cl c s k):=by
 induction k with
 |zero=>exact Xo.same rfl rfl
 |succ k ih=>
  unfold Yi;split
  ·exact ih.mono (by omega) (by omega)
  ·exact (ih.trans Xiw).mono (by omega) (by omega)
theorem Post.Xoz {p:Post}(h:p.even):p.to p.s=p:=by
 obtain⟨e1,e2⟩:=h;obtain⟨ypb,yrb,yc,ys,ycl,yt,ydl⟩:=p;simp only at e1;subst e1;rfl
theorem Xkp {B:Nat}{w:World}{wb:Nat}{own:Nat→Nat}{ss:Value}{x:Lw}{ps:List Post}(h:Xx B w wb own ss x ps){n:Nat}{p:Post}(hp:ps[n]?=some p)(hev:p.even)(o:OpV)(hlv:∃lp ln lc,o.lv=.slice lp ln lc)(hk:o.kind=28)(hbr: -9223372036854775808≤o.b∧o.b≤9223372036854775807)(hl:p.s.out.length+200≤2199023255552)(hl2:p.s.events.length+20≤2199023255552):
  Calls Tryz.prog 22 #[Yb p,opV o] w fun e w'=>e=.returned (.bool true)∧∃k,k≤8∧Now B w wb own ss x (ps.set n (p.to (Yi p.cl p.c p.s k))) w':=by
 obtain⟨lp,ln,lc,hlv⟩:=hlv;obtain⟨kind,a,b,d,s,lv,⟨fa,fk,fp,fns,fnr,info⟩,fq,fc,x0,x1,x2,x3,x4,x5⟩:=o;simp only at hlv hk hbr⊢;subst hlv hk;obtain⟨W0,hW0⟩:∃W0,(w.alloc (.cells #[.pointer (some ⟨p.pb,0,none⟩),.pointer (some ⟨p.rb,0,none⟩)] 56)).alloc (.cells #[.int .i64 28,.int .i64 a,.int .i64 b,.int .i64 d,.string s,.slice lp ln lc,.int .i64 fa,.int .i64 fk,.bool fp,.int .i64 fns,.int .i64 fnr,.slice fq info.length fc,.int .i64 x0,.int .i64 x1,.int .i64 x2,.int .i64 x3,.int .i64 x4,.int .i64 x5] 34)=W0:=⟨_,rfl⟩;obtain⟨hz0,hb0,hbx,hox⟩:=ZT w (.cells #[.pointer (some ⟨p.pb,0,none⟩),.pointer (some ⟨p.rb,0,none⟩)] 56) (.cells #[.int .i64 28,.int .i64 a,.int .i64 b,.int .i64 d,.string s,.slice lp ln lc,.int .i64 fa,.int .i64 fk,.bool fp,.int .i64 fns,.int .i64 fnr,.slice fq info.length fc,.int .i64 x0,.int .i64 x1,.int .i64 x2,.int .i64 x3,.int .i64 x4,.int .i64 x5] 34);rw[hW0]at hz0 hb0 hbx hox;have h0:=h.later hb0;have hcok:=h.cok hp;have hok:=(h.ok p (Xl hp)).1;have hev1:=hev.1;have hev2:=hev.2;have b0:W0.cell? ⟨w.heap.size,0,none⟩=some (.pointer (some ⟨p.pb,0,none⟩)):=by rw[Lib.cell_of_heap hbx];rfl
 have b1:W0.cell? ⟨w.heap.size,1,none⟩=some (.pointer (some ⟨p.rb,0,none⟩)):=by rw[Lib.cell_of_heap hbx];rfl
 have o0:W0.cell? ⟨w.heap.size+1,0,none⟩=some (.int .i64 28):=by rw[Lib.cell_of_heap hox];rfl
 have o2:W0.cell? ⟨w.heap.size+1,2,none⟩=some (.int .i64 b):=by rw[Lib.cell_of_heap hox];rfl
 have o4:W0.cell? ⟨w.heap.size+1,4,none⟩=some (.string s):=by rw[Lib.cell_of_heap hox];rfl
 have hown:∀k,w.heap.size≤k→own k=0:=h.Xp;have htop:=h.top;obtain⟨r,hr,hpick⟩:=JV b 8 hbr (by omega) (by omega);have HP:=hide hpick
 have HN0:Hid (Now B W0 wb own ss x (ps.set n (p.to (Yi p.cl p.c p.s 0))) W0):=by
  have e:p.to (Yi p.cl p.c p.s 0)=p:=Post.Xoz hev;rw[e,set_self hp];exact Now.refl h0
 have HK1:Hid (∀(wr:World) (own1:Nat→Nat) (k:Nat),k≤7→Xx B wr wb own1 ss x (ps.set n (p.to (Yi p.cl p.c p.s k)))→Calls Tryz.prog 61 #[.pointer (some ⟨p.pb,0,none⟩)] wr fun e w'=>e=.returned (.int .i64 ((if p.cl then 8 else 0:Nat):Nat))∧Now B wr wb own1 ss x ((ps.set n (p.to (Yi p.cl p.c p.s k))).set n {(p.to (Yi p.cl p.c p.s k))with s:=Yi p.cl p.c p.s (k+1)}) w'):=by
  intro wr own1 k hk7 hg;have hp1:(ps.set n (p.to (Yi p.cl p.c p.s k)))[n]?=some (p.to (Yi p.cl p.c p.s k)):=Yq hp;obtain⟨ch,q,cm,oo,ev,qe,ce,oe,hS⟩:=hg.st n _ hp1;have g1:=(Jn p.cl p.c p.s k).out;have g2:=(Jn p.cl p.c p.s k).events;refine(Xnq hS (by show(Yi p.cl p.c p.s k).out.length+_≤_;omega) (by show(Yi p.cl p.c p.s k).events.length+_≤_;omega)).mono ?_;intro e w' ha;exact hg.ans hp1 (XbV hcok hok (k+1)) ha
 have HK2:Hid (∀(wr:World) (own1:Nat→Nat) (k:Nat),k≤7→Xx B wr wb own1 ss x ((ps.set n (p.to (Yi p.cl p.c p.s k))).set n {(p.to (Yi p.cl p.c p.s k))with s:=Yi p.cl p.c p.s (k+1)})→Calls Tryz.prog 62 #[.pointer (some ⟨p.rb,0,none⟩)] wr fun e w'=>e=.returned (.int .i64 ((if p.cl then 8 else 0:Nat):Nat))∧Now B wr wb own1 ss x (ps.set n (p.to (Yi p.cl p.c p.s (k+1)))) w'):=by
  intro wr own1 k hk7 hg;have hp0:(ps.set n (p.to (Yi p.cl p.c p.s k)))[n]?=some (p.to (Yi p.cl p.c p.s k)):=Yq hp;have hp1:((ps.set n (p.to (Yi p.cl p.c p.s k))).set n {(p.to (Yi p.cl p.c p.s k))with s:=Yi p.cl p.c p.s (k+1)})[n]?=some {(p.to (Yi p.cl p.c p.s k))with s:=Yi p.cl p.c p.s (k+1)}:=Yq hp0;obtain⟨q,cm,oo,ev,ce,oe,hT⟩:=hg.rt n _ hp1;have hT2:TAt wr own1 (2*n+1) p.rb p.c (Yi p.cl p.c p.s k) p.dl q cm oo ev ce oe:=hT;rw[hev2]at hT2;have g1:=(Jn p.cl p.c p.s k).out;have g2:=(Jn p.cl p.c p.s k).events;refine(Xmb hT2 (XbV hcok hok k) (by omega) (by omega)).mono ?_;intro e w' ha;obtain⟨rfl,own2,g3,g4,g5⟩:=hg.Xds hp1 (XbV hcok hok (k+1)) ha;refine⟨rfl,own2,?_,g4,g5⟩;rw[List.set_set,List.set_set]at g3;unfold Post.to at g3⊢;rw[hev2];exact g3
 obtain⟨en,hen⟩:∃en:Nat,(if p.cl then 8 else 0)=en:=⟨_,rfl⟩;rw[hen]at HK1 HK2;have HBX:=hide hbx;have HOX:=hide hox;have HB0:=hide hb0;unfold Yb opV;simp only;clear h h0 hbx hox hb0 hpick;go_enter Tryz.func22,Tryz.ntmps22
 generalize hnB:w.heap.size=nB at*;go_wp2_with fail
 go_loopw [5,6,11] (fun e f i wr=>∃(k:Nat) (ee:Nat),k≤r+1∧e=.int .i64 (ee:Nat)∧f=.int .i64 (ee:Nat)∧i=.int .i64 k∧Now B W0 wb own ss x (ps.set n (p.to (Yi p.cl p.c p.s k))) wr) (fun _ _ i _=>r+1 -(intOf i).toNat)
 case atStart=>exact⟨0,0,by omega,rfl,rfl,rfl,Xa HN0⟩
 case round=>
  obtain⟨k,ee,hk,rfl,rfl,rfl,own1,g1,g2,g3⟩:=hrel;clear HN0 b0 b1 o0 o2 o4;have hzr:=g2.keeps.size;have hbx1:=(g2.keeps.block nB (by omega) (fun hh=>hh (hown _ (by omega)))).trans (Xa HBX);have hox1:=(g2.keeps.block (nB+1) (by omega) (fun hh=>hh (hown _ (by omega)))).trans (Xa HOX);have b0':wr.cell? ⟨nB,0,none⟩=some (.pointer (some ⟨p.pb,0,none⟩)):=by rw[Lib.cell_of_heap hbx1];rfl
  have o2':wr.cell? ⟨nB+1,2,none⟩=some (.int .i64 b):=by rw[Lib.cell_of_heap hox1];rfl
  by_cases hlt:k≤r
  ·have hltI:(k:Int)≤(r:Int):=by omega
   have K1:=hide (Xa HK1 wr own1 k (by omega) g1);have HG:=hide (And.intro g2 g3);clear hbx1 hox1 g1 g2 g3;go_wp2_with (go_at_call 16;refine(Xa HP _).mono ?_;rintro e w5 ⟨rfl,rfl⟩)
   refine(Xa K1).mono ?_;rintro e W1 ⟨rfl,own2,q1,q2,q3⟩;dsimp only
   obtain⟨g2,g3⟩:=Xa HG;have hz1:=q2.keeps.size;have hc2:=g2.trans q2;have hbx2:=(hc2.keeps.block nB (by omega) (fun hh=>hh (hown _ (by omega)))).trans (Xa HBX);have b1':W1.cell? ⟨nB,1,none⟩=some (.pointer (some ⟨p.rb,0,none⟩)):=by rw[Lib.cell_of_heap hbx2];rfl
   have K2:=hide (Xa HK2 W1 own2 k (by omega) q1);have HG2:=hide (And.intro hc2 (g3.trans q3));clear K1 HG q1 q2 q3 g2 g3 hc2 hbx2 b0' o2';go_wp2_with fail
   refine(Xa K2).mono ?_;rintro e W2 ⟨rfl,own3,q1,q2,q3⟩;dsimp only
   have HZ:Hid (Now B W0 wb own ss x (ps.set n (p.to (Yi p.cl p.c p.s (k+1)))) W2):=⟨own3,q1,(Xa HG2).1.trans q2,(Xa HG2).2.trans q3⟩;clear K2 HG2 q1 q2 q3 b1';go_wp2
   go_roundw
   case rel=>exact⟨k+1,en,by omega,rfl,rfl,by go_num,Xa HZ⟩
   case measure=>simp[intOf];omega
  ·have hltI:(r:Int)<(k:Int):=by omega
   have HZ:Hid (Now B w wb own ss x (ps.set n (p.to (Yi p.cl p.c p.s k))) wr):=Now.of (W:=W0) ⟨own1,g1,g2,g3⟩ (by rw[hnB];exact Xa HB0) (by omega);clear g1 g2 g3 hbx1 hox1 HK1 HK2;go_wp2_with (go_at_call 16;refine(Xa HP _).mono ?_;rintro e w5 ⟨rfl,rfl⟩)
   go_ret
   exact⟨rfl,k,by omega,Xa HZ⟩
end Go.Proofs.YtkalonhalhdlaaaGreatDoor
namespace Go.Proofs.YtkalonhalhdlaaaGreatDoor
open Go
def XD (s t:St):Prop:=∀m∈t.came,m∈s.came∨m.length≤64
section
variable {c:Cfg}{s t u:St}
theorem XD.same (h:t.came=s.came):XD s t:=fun _ hm=>.inl (h▸hm)
theorem XD.trans (h:XD s t)(k:XD t u):XD s u:=fun m hm=>by
 rcases k m hm with h1|h1
 ·exact h m h1
 ·exact .inr h1
theorem XjK (n:Nat):∀s:St,(YT c n s).came=s.came:=by
 induction n with
 |zero=>exact fun s=>rfl
 |succ n ih=>
  intro s;unfold YT;split
  ·rw[ih,Xb5]
  ·rfl
theorem XfN:(XV c s).came=s.came:=by
 unfold XV;split
 ·rfl
 ·split <;> rfl
theorem Xfh:(pump c s).came=s.came:=by
 unfold pump;split
 ·rfl
 ·rw[XfN,XjK]
theorem XaP (nr:Nat):(Xe c nr s).came=s.came:=by
 unfold Xe;split <;> rfl
theorem Xeu (f:Fr):(Xn c f s).came=s.came:=by
 unfold Xn;dsimp only
 split
 ·rfl
 ·split
  ·rfl
  ·split <;> rfl
theorem Xgw (f:Fr)(hf:f.info.length≤64):XD s (Ym c f s):=by
 unfold Ym;split
 ·exact XD.same rfl
 ·split
  ·intro m hm;have hm':m∈s.came++[f.info]:=hm;rcases List.mem_append.1 hm' with h|h
   ·exact .inl h
   ·simp at h;exact .inr (h▸hf)
  ·split
   ·exact XD.same rfl
   ·split
    ·exact XD.same rfl
    ·exact XD.same rfl
theorem XgB (f:Fr)(hf:f.info.length≤64):XD s (YO c f s):=by
 unfold YO;split
 ·exact XD.same rfl
 ·refine XD.trans (t:=if f.k=1 then Ym c f (Xe c f.nr.toNat s)else Xn c f (Xe c f.nr.toNat s)) ?_ (XD.same Xfh);split
  ·exact (XD.same (XaP _)).trans (Xgw f hf)
  ·exact (XD.same (XaP _)).trans (XD.same (Xeu f))
theorem XcZ (f:Fr)(hf:f.info.length≤64):XD s (Zu c f s):=by
 unfold Zu;split
 ·exact XD.same rfl
 ·split
  ·exact XD.same rfl
  ·split
   ·exact XD.same rfl
   ·split
    ·exact XD.same rfl
    ·split
     ·exact XgB f hf
     ·exact XD.same rfl
theorem Xep (f:Fr)(hf:f.info.length≤64):XD s (Yr c f s):=by
 unfold Yr;split
 ·unfold Zw;split
  ·exact XD.same rfl
  ·split
   ·exact XD.same rfl
   ·split
    ·split <;> exact XD.same rfl
    ·exact XD.same rfl
 ·split
  ·unfold YM;split
   ·exact XD.same rfl
   ·split
    ·exact XD.same rfl
    ·split
     ·exact XD.same rfl
     ·split <;> exact XD.same rfl
  ·split
   ·exact XcZ f hf
   ·split
    ·unfold YN;split
     ·exact XD.same rfl
     ·split
      ·exact XD.same rfl
      ·split
       ·split <;> exact XD.same rfl
       ·exact XD.same rfl
    ·split
     ·unfold Y3;split
      ·exact XcZ f hf
      ·split
       ·split <;> exact XD.same rfl
       ·exact XD.same rfl
     ·exact XD.same rfl
theorem XjN (m:Int)(b:Msg):(Xi m b).2.info.length≤64:=by
 unfold Xi;dsimp only
 split
 ·simp[ZK]
 ·split
  ·simp[ZK]
  ·split
   ·simp[ZK]
   ·rename_i h
    have h':Yc m (XK m b).1 (b.length -(1+cbN m.toNat (XK m b).1):Nat)=true:=by simpa using h
    show(b.drop (1+cbN m.toNat (XK m b).1)).length≤64
    rw[List.length_drop];unfold Yc JE at h';split at h'
    ·have:=of_decide_eq_true h';omega
    ·split at h'
     ·have:=eq_of_beq h';split at this <;> omega
     ·have:=eq_of_beq h';omega
theorem XdS (b:Msg):XD s (Yy c b s).2:=by
 unfold Yy;split
 ·exact XD.same rfl
 ·split
  ·exact Xep _ (XjN _ _)
  ·exact XD.same rfl
theorem XcW (was:Bool):(change c was s).came=s.came:=by
 unfold change;split <;> rfl
theorem XjZ (b:Msg):(Qa c b s).2.came=s.came:=by
 unfold Qa;split
 ·rfl
 ·split
  ·rfl
  ·split
   ·rfl
   ·exact Xfh
theorem Xih:(Zd c s).came=s.came:=by
 unfold Zd;split
 ·rfl
 ·split
  ·rfl
  ·split
   ·rfl
   ·split <;> rfl
theorem Xj8:(Jd c s).came=s.came:=by
 unfold Jd;split
 ·rfl
 ·split
  ·exact Xih
  ·rfl
structure St.short (s:St):Prop where
 out:∀m∈s.out,m.length≤64
 came:∀m∈s.came,m.length≤64
theorem St.short.grown {a e:Nat}(h:s.short)(hg:Xo a e s t)(hc:XD s t):t.short:=by
 obtain⟨⟨x,h1,_,h3⟩,_⟩:=hg;refine⟨fun m hm=> ?_,fun m hm=> ?_⟩
 ·rw[h1]at hm;rcases List.mem_append.1 hm with hm|hm
  ·exact h.out m hm
  ·exact h3 m hm
 ·rcases hc m hm with h2|h2
  ·exact h.came m h2
  ·exact h2
theorem Xgr (c:Cfg)(cl:Bool)(s:St)(M:List Msg):XD s (Yw c cl s M):=by
 induction M generalizing s with
 |nil=>exact XD.same rfl
 |cons m r ih=>
  refine XD.trans (t:=if cl then s else(Yy c m s).2) ?_ (ih _);split
  ·exact XD.same rfl
  ·exact XdS m
theorem Xgs (c:Cfg)(s:St)(M:List Msg):Yw c true s M=s:=by
 induction M generalizing s with
 |nil=>rfl
 |cons m r ih=>exact ih s
theorem XhO (hc:c.ok):∀(M:List Msg) (s:St) (lu:Bool),s.ok c→Lim c (M.length+15*Jf M) (aft lu M) 0 lu (XaI lu M) s (Yw c false s M):=by
 intro M;induction M with
 |nil=>exact fun s lu _=>Lim.refl
 |cons m r ih=>
  intro s lu h;have h1:=Xe2 (lu:=lu) hc h m;have h2:=ih (Yy c m s).2 (nxt lu m) (Xde hc h m);refine(h1.trans h2).mono ?_ (Nat.le_refl _) (Nat.le_refl _);have e:Jf (m::r)=Jf r+if kR m then 1 else 0:=by unfold Jf;rw[List.countP_cons]
  rw[e,List.length_cons];split <;> omega
theorem XhP (hc:c.ok)(h:s.ok c)(cl:Bool)(M:List Msg):Phi c (Yw c cl s M)≤Phi c s+Xaa M+15:=by
 cases cl with
 |true=>rw[Xgs];omega
 |false=>
  have:=((XhO hc M s false h).trans Lim.calm).phi;unfold Xaa;omega
end
end Go.Proofs.YtkalonhalhdlaaaGreatDoor
namespace Go.Proofs.YtkalonhalhdlaaaGreatDoor
open Go.RowKit
section
variable {B:Nat}{w w':World}{wb:Nat}{own own':Nat→Nat}{ss:Value}{x:Lw}{ps:List Post}
def XcR (cl:Bool):Nat:=if cl then 8 else 0
def Xke (cl:Bool)(s:St):Value:=if cl then Xeg else Xef s
theorem seen (h:Xx B w wb own ss x ps){n:Nat}{p:Post}(hp:ps[n]?=some p){V:World}(hV:Below w.heap.size w V):
  Calls Tryz.prog 46 #[.pointer (some ⟨p.pb,0,none⟩)] V fun e w'=>e=.returned (.tuple #[Xke p.cl p.s,.int .i64 (XcR p.cl:Nat)])∧Below V.heap.size V w':=by
 have h1:=h.later hV;obtain⟨pb,rb,c,s,cl,t,dl⟩:=p;obtain⟨ch,q,cm,o,ev,qe,ce,oe,hS⟩:=h1.st n _ hp;simp only at hS⊢;cases cl with
 |true=>exact Xmh hS
 |false=>exact Xmg hS
theorem Xpi (h:Xx B w wb own ss x ps){n:Nat}{p:Post}(hp:ps[n]?=some p){V:World}(hV:Below w.heap.size w V):
  Calls Tryz.prog 47 #[.pointer (some ⟨p.rb,0,none⟩)] V fun e w'=>e=.returned (.tuple #[Xke p.dl p.t,.int .i64 (XcR p.dl:Nat)])∧Below V.heap.size V w':=by
 have h1:=h.later hV;obtain⟨pb,rb,c,s,cl,t,dl⟩:=p;obtain⟨q,cm,o,ev,ce,oe,hS⟩:=h1.rt n _ hp;simp only at hS⊢;cases dl with
 |true=>exact Xkd hS
 |false=>exact Xkc hS
theorem XiB (cl:Bool)(s:St):∃i0 i1 i2 i3 i4 i5 i9 i10:Nat,∃b6 b7 b8:Bool,Xke cl s=.agg #[.int .i64 i0,.int .i64 i1,.int .i64 i2,.int .i64 i3,.int .i64 i4,.int .i64 i5,.bool b6,.bool b7,.bool b8,.int .i64 i9,.int .i64 i10]:=by
 cases cl with
 |true=>exact⟨0,0,0,0,0,0,0,0,false,false,false,rfl⟩
 |false=>exact⟨_,_,_,_,_,_,_,_,_,_,_,rfl⟩
theorem TAt.Xgn {i b:Nat}{c:Cfg}{s:St}{cl:Bool}{q cm o:Value}{ce oe:List Value}(h:TAt w own i b c s cl q cm o (.slice none 0 0) ce oe):TAt w (freed own (tg i 4)) i b c s cl q cm o (.slice none 0 0) ce oe:=by
 have hn:∀p,p<5→p≠4→tg i p≠tg i 4:=fun p hp h=>Xz hp (by omega) (.inr h)
 exact⟨h.head,(Xy (by rw[h.ownb];exact hn 0 (by omega) (by omega))).trans h.ownb,h.lq.Jj (Xb.refl (fun _=>False) w) (fun _ hx=>absurd hx id) (fun k _ e=>Xy (by rw[e];exact hn 1 (by omega) (by omega))),h.lcm.Y0 (hn 2 (by omega) (by omega)),h.lo.Y0 (hn 3 (by omega) (by omega)),h.lev,fun k hk=>by simp[Value.ownBlock]at hk,(Xy (by rw[h.XC];exact fun e=>Xq _ _ e.symm)).trans h.XC,fun k hk=>(Xy (by rw[h.Xp k hk];exact fun e=>Xq _ _ e.symm)).trans (h.Xp k hk),h.cok,h.sok⟩
def evV (E:List Nat):List Value:=E.map fun n=>.int .i64 (n:Nat)
def XcC (B:Nat)(w:World)(wb:Nat)(own:Nat→Nat)(ss:Value)(x:Lw)(ps':List Post)(en:Nat)(E:List Nat)(i:Nat)(e:Ending)(w':World):Prop:=
 ∃l own',e=.returned (.tuple #[l,.int .i64 (en:Nat)])∧Xx B w' wb own' ss x ps'∧w'.ownsRow 0 3 1 l E.length (evV E)∧(∀ k,l.ownBlock=some k→own' k=0)∧Calm own own' w w'∧Below B w w'∧(∀ k,l.ownBlock=some k→∃q,q<5∧own k=tg i q)∧(en≠0→l=.slice none 0 0)
theorem XcC.none (h:Xx B w wb own ss x ps){n:Nat}{p:Post}(hp:ps[n]?=some p)(i:Nat){e:Ending}(he:e=.returned (.tuple #[.slice none 0 0,.int .i64 (8:Nat)])):XcC B w wb own ss x (ps.set n p) 8 [] i e w:=
 ⟨_,own,he,by rw[set_self hp];exact h,World.ownsRow_nil _ _ _ _,fun k hk=>by simp[Value.ownBlock]at hk,Calm.refl _ _,Below.refl _ _,fun k hk=>by simp[Value.ownBlock]at hk,fun _=>rfl⟩
theorem XhM (h:Xx B w wb own ss x ps){n:Nat}{p:Post}(hp:ps[n]?=some p):
  Calls Tryz.prog 48 #[.pointer (some ⟨p.pb,0,none⟩)] w fun e w'=>XcC B w wb own ss x (ps.set n {p with s:=if p.cl then p.s else {p.s with events:=[]}}) (XcR p.cl) (if p.cl then []else p.s.events) (2*n) e w':=by
 obtain⟨pb,rb,c,s,cl,t,dl⟩:=p;obtain⟨ch,q,cm,o,ev,qe,ce,oe,hS⟩:=h.st n _ hp;simp only at hS⊢;refine(Xjd hS).mono ?_;intro e w' ha;cases cl with
 |true=>
  obtain⟨rfl,rfl⟩:=ha;exact XcC.none h hp _ rfl
 |false=>
  simp only[Bool.false_eq_true,if_false]at ha⊢;obtain⟨rfl,h1,hL,hK⟩:=ha;have hs1:Stn w' (freed own (tg (2*n) 4)) (2*n) pb c {s with events:=[]} false:=⟨_,_,_,_,_,_,_,_,h1.Xgn⟩;have hu:Qb (2*n) own (freed own (tg (2*n) 4)) w w':=Qb.freed (by omega) hK hS.ownb (Upd.refl _ _ _);obtain⟨g1,g2⟩:=h.called hp hu hs1 (XdI (h.ok _ (Xl hp)).1 _);exact⟨ev,_,rfl,g1,hL,fun k hk=>JG (hS.owne k hk),hu.calm,g2,fun k hk=>⟨4,by omega,hS.owne k hk⟩,fun hh=>absurd rfl hh⟩
theorem Xgo (h:Xx B w wb own ss x ps){n:Nat}{p:Post}(hp:ps[n]?=some p):
  Calls Tryz.prog 49 #[.pointer (some ⟨p.rb,0,none⟩)] w fun e w'=>XcC B w wb own ss x (ps.set n {p with t:=if p.dl then p.t else {p.t with events:=[]}}) (XcR p.dl) (if p.dl then []else p.t.events) (2*n+1) e w':=by
 obtain⟨pb,rb,c,s,cl,t,dl⟩:=p;obtain⟨q,cm,o,ev,ce,oe,hS⟩:=h.rt n _ hp;simp only at hS⊢;refine(Xiv hS).mono ?_;intro e w' ha;cases dl with
 |true=>
  obtain⟨rfl,rfl⟩:=ha;exact XcC.none h hp _ rfl
 |false=>
  simp only[Bool.false_eq_true,if_false]at ha⊢;obtain⟨rfl,h1,hL,hK⟩:=ha;have hs1:Ttn w' (freed own (tg (2*n+1) 4)) (2*n+1) rb c {t with events:=[]} false:=⟨_,_,_,_,_,_,h1.Xgn⟩;have hu:Qb (2*n+1) own (freed own (tg (2*n+1) 4)) w w':=Qb.freed (by omega) hK hS.ownb (Upd.refl _ _ _);obtain⟨g1,g2⟩:=h.XcM hp hu hs1 (XdI (h.ok _ (Xl hp)).2 _);exact⟨ev,_,rfl,g1,hL,fun k hk=>JG (hS.owne k hk),hu.calm,g2,fun k hk=>⟨4,by omega,hS.owne k hk⟩,fun hh=>absurd rfl hh⟩
def Xdv (B:Nat)(w:World)(wb:Nat)(ss:Value)(x:Lw)(ps':List Post)(d:Nat)(w':World):Prop:=
 ∃own' x',Xx B w' wb own' ss x' ps'∧Grew x x' 0 0 0 d∧Below B w w'
theorem XmS (a:Option Addr)(n c:Nat)(w:World):(binOp .eql 62 (.slice a n c) (.slice none 0 0)).run Tryz.prog w=.ok (.bool a.isNone) w:=
 Lib.run_eql_slice_nil w 62 3 a n c 0 0 Tryz.underlying62
theorem Xx.Xpd (h:Xx B w wb own ss x ps){v:Value}{E:List Nat}(hv:w.ownsRow 0 3 1 v E.length (evV E))(hL:∀k,v.ownBlock=some k→own k=0∧B≤k∧¬Je wb ss x k)(hN:x.b.ei.length≤1099511627776)(hn:E.length≤1099511627000):
  Calls Tryz.prog 50 #[.pointer (some ⟨wb,2,none⟩),v] w fun e w'=>e=.returned (.tuple #[])∧Xdv B w wb ss x ps 1 w':=by
 refine(XgG h.lw.bk hv (fun k hk hg=>(hL k hk).2.2 (.inl (.inr (.inl hg)))) hN hn).mono ?_;rintro e w' ⟨rfl,b',k1,k2,k3,k4,k5,k6,k7⟩
 have k6':Xb (fun k=>k=wb∨x.b.blk k∨v.ownBlock=some k) w w':=k6.mono (fun k hk=>by
  rcases hk with hk|hk|hk
  ·exact .inl hk
  ·exact .inr (.inl (.inr (.inr (.inr (.inl hk.symm)))))
  ·exact .inr (.inr hk.symm))
 obtain⟨g1,g2⟩:=h.booked k1 k6' k7 hL;exact⟨rfl,own,{x with b:=b'},g1,⟨rfl,rfl,by show b'.eb.length=_;rw[k3];omega,by show b'.ef.length=_;rw[k4];omega,by show b'.el.length=_;rw[k5];omega,by show b'.ei.length=_;omega⟩,g2⟩
end
theorem Xl9 {B:Nat}{w:World}{wb:Nat}{own:Nat→Nat}{ss:Value}{x:Lw}{ps:List Post}(h:Xx B w wb own ss x ps){n:Nat}{p:Post}(hp:ps[n]?=some p)(hev:p.even)(o:OpV)(hlv:∃lp ln lc,o.lv=.slice lp ln lc)(hk:o.kind=32):
  Calls Tryz.prog 21 #[.pointer (some ⟨wb,0,none⟩),Yb p,opV o] w fun e w'=>e=.returned (.bool true)∧Xdv B w wb ss x ps 0 w':=by
 obtain⟨lp,ln,lc,hlv⟩:=hlv;obtain⟨kind,a,b,d,s,lv,⟨fa,fk,fp,fns,fnr,info⟩,fq,fc,x0,x1,x2,x3,x4,x5⟩:=o;simp only at hlv hk;subst hlv hk;obtain⟨W0,hW0⟩:∃W0,(w.alloc (.cells #[.pointer (some ⟨p.pb,0,none⟩),.pointer (some ⟨p.rb,0,none⟩)] 56)).alloc (.cells #[.int .i64 32,.int .i64 a,.int .i64 b,.int .i64 d,.string s,.slice lp ln lc,.int .i64 fa,.int .i64 fk,.bool fp,.int .i64 fns,.int .i64 fnr,.slice fq info.length fc,.int .i64 x0,.int .i64 x1,.int .i64 x2,.int .i64 x3,.int .i64 x4,.int .i64 x5] 34)=W0:=⟨_,rfl⟩;obtain⟨hz0,hb0,hbx,hox⟩:=ZT w (.cells #[.pointer (some ⟨p.pb,0,none⟩),.pointer (some ⟨p.rb,0,none⟩)] 56) (.cells #[.int .i64 32,.int .i64 a,.int .i64 b,.int .i64 d,.string s,.slice lp ln lc,.int .i64 fa,.int .i64 fk,.bool fp,.int .i64 fns,.int .i64 fnr,.slice fq info.length fc,.int .i64 x0,.int .i64 x1,.int .i64 x2,.int .i64 x3,.int .i64 x4,.int .i64 x5] 34);rw[hW0]at hz0 hb0 hbx hox;have h0:=h.later hb0;have hev1:=hev.1;have hev2:=hev.2;have b0:W0.cell? ⟨w.heap.size,0,none⟩=some (.pointer (some ⟨p.pb,0,none⟩)):=by rw[Lib.cell_of_heap hbx];rfl
 have o0:W0.cell? ⟨w.heap.size+1,0,none⟩=some (.int .i64 32):=by rw[Lib.cell_of_heap hox];rfl
 have hown:∀k,w.heap.size≤k→own k=0:=h.Xp;have htop:=h.top;have k1:=seen h0 hp (Below.refl _ _);have K1:=hide k1;have K2:=hide (fun V (hV:Below W0.heap.size W0 V)=>Xpi h0 hp hV);obtain⟨i0,i1,i2,i3,i4,i5,i9,i10,b6,b7,b8,hvc⟩:=XiB p.cl p.s;rw[hvc]at K1;rw[hev1,hev2,hvc]at K2;generalize XcR p.cl=en at*;have H0:=hide h0;have HBX:=hide hbx;have HB0:=hide hb0;unfold Yb opV;simp only;clear h h0 hbx hox k1 hb0;go_enter Tryz.func21,Tryz.ntmps21
 generalize hnB:w.heap.size=nB at*;go_wp2_with fail
 refine(Xa K1).mono ?_;rintro e W1 ⟨rfl,hB1⟩;dsimp only
 have hbx1:=(hB1.block nB (by omega)).trans (Xa HBX);have hz1:=hB1.size;obtain⟨W2,hW2⟩:∃W2,W1.alloc (.cells #[.int .i64 i0,.int .i64 i1,.int .i64 i2,.int .i64 i3,.int .i64 i4,.int .i64 i5,.bool b6,.bool b7,.bool b8,.int .i64 i9,.int .i64 i10] 93)=W2:=⟨_,rfl⟩;have hB2:Below W1.heap.size W1 W2:=by rw[← hW2];exact(Below.refl _ W1).alloc (Nat.le_refl _) _
 have hz2:W2.heap.size=W1.heap.size+1:=by rw[← hW2];exact Xk W1 _
 have hV2:W2.heap[W1.heap.size]?=some (.cells #[.int .i64 i0,.int .i64 i1,.int .i64 i2,.int .i64 i3,.int .i64 i4,.int .i64 i5,.bool b6,.bool b7,.bool b8,.int .i64 i9,.int .i64 i10] 93):=by rw[← hW2];exact Xg W1 _
 have hbx2:=(hB2.block nB (by omega)).trans hbx1;have b1:W2.cell? ⟨nB,1,none⟩=some (.pointer (some ⟨p.rb,0,none⟩)):=by rw[Lib.cell_of_heap hbx2];rfl
 generalize hn1:W1.heap.size=n1 at*;have k2:=Xa K2 W2 (hB1.trans (hB2.mono (by omega)));have K3:=hide k2;have HV2:=hide hV2;have HB1:=hide (hB1.trans (hB2.mono (by omega)));clear hbx1 hbx2 hB1 K1 b0 o0 K2 k2 hV2 hB2;go_wp2_with fail
 refine(Xa K3).mono ?_;rintro e W3 ⟨rfl,hB3⟩;dsimp only
 obtain⟨W4,hW4⟩:∃W4,W3.alloc (.cells #[.int .i64 i0,.int .i64 i1,.int .i64 i2,.int .i64 i3,.int .i64 i4,.int .i64 i5,.bool b6,.bool b7,.bool b8,.int .i64 i9,.int .i64 i10] 93)=W4:=⟨_,rfl⟩;have hB4:Below W3.heap.size W3 W4:=by rw[← hW4];exact(Below.refl _ W3).alloc (Nat.le_refl _) _
 have hz3:=hB3.size;have hz4:W4.heap.size=W3.heap.size+1:=by rw[← hW4];exact Xk W3 _
 have hV4:W4.heap[W3.heap.size]?=some (.cells #[.int .i64 i0,.int .i64 i1,.int .i64 i2,.int .i64 i3,.int .i64 i4,.int .i64 i5,.bool b6,.bool b7,.bool b8,.int .i64 i9,.int .i64 i10] 93):=by rw[← hW4];exact Xg W3 _
 have hV3:=(hB4.block n1 (by omega)).trans ((hB3.block n1 (by omega)).trans (Xa HV2));generalize hn3:W3.heap.size=n3 at*;have u0:W4.cell? ⟨n1,0,none⟩=some (.int .i64 i0):=by rw[Lib.cell_of_heap hV3];rfl
 have u1:W4.cell? ⟨n1,1,none⟩=some (.int .i64 i1):=by rw[Lib.cell_of_heap hV3];rfl
 have u2:W4.cell? ⟨n1,2,none⟩=some (.int .i64 i2):=by rw[Lib.cell_of_heap hV3];rfl
 have u3:W4.cell? ⟨n1,3,none⟩=some (.int .i64 i3):=by rw[Lib.cell_of_heap hV3];rfl
 have u4:W4.cell? ⟨n1,4,none⟩=some (.int .i64 i4):=by rw[Lib.cell_of_heap hV3];rfl
 have u5:W4.cell? ⟨n1,5,none⟩=some (.int .i64 i5):=by rw[Lib.cell_of_heap hV3];rfl
 have u6:W4.cell? ⟨n1,6,none⟩=some (.bool b6):=by rw[Lib.cell_of_heap hV3];rfl
 have u7:W4.cell? ⟨n1,7,none⟩=some (.bool b7):=by rw[Lib.cell_of_heap hV3];rfl
 have u8:W4.cell? ⟨n1,8,none⟩=some (.bool b8):=by rw[Lib.cell_of_heap hV3];rfl
 have u9:W4.cell? ⟨n1,9,none⟩=some (.int .i64 i9):=by rw[Lib.cell_of_heap hV3];rfl
 have u10:W4.cell? ⟨n1,10,none⟩=some (.int .i64 i10):=by rw[Lib.cell_of_heap hV3];rfl
 have v0:W4.cell? ⟨n3,0,none⟩=some (.int .i64 i0):=by rw[Lib.cell_of_heap hV4];rfl
 have v1:W4.cell? ⟨n3,1,none⟩=some (.int .i64 i1):=by rw[Lib.cell_of_heap hV4];rfl
 have v2:W4.cell? ⟨n3,2,none⟩=some (.int .i64 i2):=by rw[Lib.cell_of_heap hV4];rfl
 have v3:W4.cell? ⟨n3,3,none⟩=some (.int .i64 i3):=by rw[Lib.cell_of_heap hV4];rfl
 have v4:W4.cell? ⟨n3,4,none⟩=some (.int .i64 i4):=by rw[Lib.cell_of_heap hV4];rfl
 have v5:W4.cell? ⟨n3,5,none⟩=some (.int .i64 i5):=by rw[Lib.cell_of_heap hV4];rfl
 have v6:W4.cell? ⟨n3,6,none⟩=some (.bool b6):=by rw[Lib.cell_of_heap hV4];rfl
 have v7:W4.cell? ⟨n3,7,none⟩=some (.bool b7):=by rw[Lib.cell_of_heap hV4];rfl
 have v8:W4.cell? ⟨n3,8,none⟩=some (.bool b8):=by rw[Lib.cell_of_heap hV4];rfl
 have v9:W4.cell? ⟨n3,9,none⟩=some (.int .i64 i9):=by rw[Lib.cell_of_heap hV4];rfl
 have v10:W4.cell? ⟨n3,10,none⟩=some (.int .i64 i10):=by rw[Lib.cell_of_heap hV4];rfl
 have HZ:Hid (Xdv B w wb ss x ps 0 W4):=by
  have q:Below W0.heap.size W0 W4:=(Xa HB1).trans ((hB3.mono (by omega)).trans (hB4.mono (by omega)));exact⟨own,x,(Xa H0).later q,⟨rfl,rfl,by omega,by omega,by omega,by omega⟩,((Xa HB0).trans (q.mono (by omega))).mono (by omega)⟩
 clear hV3 hV4 hB3 hB4 HV2 HB1 K3 H0 HB0 HBX b1 hvc hev1 hev2 hown;go_wp2
 go_ret
 exact⟨rfl,Xa HZ⟩
theorem Xix {B:Nat}{w:World}{wb:Nat}{own:Nat→Nat}{ss:Value}{x:Lw}{ps:List Post}(h:Xx B w wb own ss x ps){n:Nat}{p:Post}(hp:ps[n]?=some p)(hev:p.even)(o:OpV)(hlv:∃lp ln lc,o.lv=.slice lp ln lc)(hk:o.kind=31)(hN:x.b.ei.length≤1099511627776)(hn:p.s.events.length≤1099511627000):
  Calls Tryz.prog 21 #[.pointer (some ⟨wb,0,none⟩),Yb p,opV o] w fun e w'=>e=.returned (.bool true)∧Xdv B w wb ss x (ps.set n (p.to (if p.cl then p.s else {p.s with events:=[]}))) 1 w':=by
 obtain⟨lp,ln,lc,hlv⟩:=hlv;obtain⟨kind,a,b,d,s,lv,⟨fa,fk,fp,fns,fnr,info⟩,fq,fc,x0,x1,x2,x3,x4,x5⟩:=o;simp only at hlv hk;subst hlv hk;obtain⟨W0,hW0⟩:∃W0,(w.alloc (.cells #[.pointer (some ⟨p.pb,0,none⟩),.pointer (some ⟨p.rb,0,none⟩)] 56)).alloc (.cells #[.int .i64 31,.int .i64 a,.int .i64 b,.int .i64 d,.string s,.slice lp ln lc,.int .i64 fa,.int .i64 fk,.bool fp,.int .i64 fns,.int .i64 fnr,.slice fq info.length fc,.int .i64 x0,.int .i64 x1,.int .i64 x2,.int .i64 x3,.int .i64 x4,.int .i64 x5] 34)=W0:=⟨_,rfl⟩;obtain⟨hz0,hb0,hbx,hox⟩:=ZT w (.cells #[.pointer (some ⟨p.pb,0,none⟩),.pointer (some ⟨p.rb,0,none⟩)] 56) (.cells #[.int .i64 31,.int .i64 a,.int .i64 b,.int .i64 d,.string s,.slice lp ln lc,.int .i64 fa,.int .i64 fk,.bool fp,.int .i64 fns,.int .i64 fnr,.slice fq info.length fc,.int .i64 x0,.int .i64 x1,.int .i64 x2,.int .i64 x3,.int .i64 x4,.int .i64 x5] 34);rw[hW0]at hz0 hb0 hbx hox;have h0:=h.later hb0;have hev1:=hev.1;have hev2:=hev.2;have b0:W0.cell? ⟨w.heap.size,0,none⟩=some (.pointer (some ⟨p.pb,0,none⟩)):=by rw[Lib.cell_of_heap hbx];rfl
 have o0:W0.cell? ⟨w.heap.size+1,0,none⟩=some (.int .i64 31):=by rw[Lib.cell_of_heap hox];rfl
 have hown:∀k,w.heap.size≤k→own k=0:=h.Xp;have htop:=h.top;obtain⟨en,hen⟩:∃en,XcR p.cl=en:=⟨_,rfl⟩;obtain⟨s',hs'⟩:∃s',(if p.cl then p.s else {p.s with events:=[]})=s':=⟨_,rfl⟩;obtain⟨E,hE⟩:∃E,(if p.cl then []else p.s.events)=E:=⟨_,rfl⟩
 have hT:E.length≤1099511627000:=by
  rw[← hE];split
  ·simp
  ·exact hn
 have k1:=XhM h0 hp;rw[hen,hs',hE]at k1;have K1:=hide k1;have H0:=hide h0;have HBX:=hide hbx;have HB0:=hide hb0;rw[hs'];unfold Yb opV;simp only;clear h h0 hbx hox k1 hb0 hn;go_enter Tryz.func21,Tryz.ntmps21
 generalize hnB:w.heap.size=nB at*;go_wp2_with fail
 refine(Xa K1).mono ?_;intro e W1 hg;obtain⟨l,own1,rfl,a1,a2,a3,a4,a5,a6,a7⟩:=hg;dsimp only
 have hz1:=a4.keeps.size;have hbx1:=(a4.keeps.block nB (by omega) (fun e=>e (hown _ (by omega)))).trans (Xa HBX);have b1:W1.cell? ⟨nB,1,none⟩=some (.pointer (some ⟨p.rb,0,none⟩)):=by rw[Lib.cell_of_heap hbx1];rfl
 have hp1:(ps.set n {p with s:=s'})[n]?=some {p with s:=s'}:=Yq hp;have k2:=Xgo a1 hp1;simp only at k2;rw[hev1,hev2,hen,hs',hE]at k2;have K2:=hide k2;have HA:=hide (And.intro a1 (And.intro a2 (And.intro a3 (And.intro a4 (And.intro a5 a6)))));have hnil:=a7;clear a1 a2 a3 a4 a5 a6 a7 hbx1 k2 b0 o0 K1;go_wp2_with fail
 refine(Xa K2).mono ?_;intro e W3 hg;obtain⟨m,own2,rfl,c1,c2,c3,c4,c5,c6,c7⟩:=hg;dsimp only
 obtain⟨a1,a2,a3,a4,a5,a6⟩:=Xa HA
 have gw:Xx B W3 wb own2 ss x (ps.set n (p.to s')):=by
  rw[List.set_set]at c1;unfold Post.to;rw[hev2];exact c1
 have hl3:W3.ownsRow 0 3 1 l E.length (evV E):=Xc a2 c4.keeps (fun k hk e=>e (a3 k hk))
 have hlz:∀k,l.ownBlock=some k→own2 k=0∧B≤k∧¬Je wb ss x k:=by
  intro k hk;obtain⟨q,_,e⟩:=a6 k hk;have hne:own k≠0:=by rw[e];exact Xq _ _
  exact⟨c4.zero k (a2.lt k hk).2 (a3 k hk),(Xa H0).lo k hne,(Xa H0).free k hne⟩
 have hbw:Below B w W3:=((Xa HB0).mono (by omega)).trans (a5.trans c5);have HK:=hide (fun(V:World) (hV:Below W3.heap.size W3 V)=>(gw.later hV).Xpd (Xc hl3 (Xb.of hV (X:=fun _=>False)) (fun _ _ hx=>hx)) hlz hN hT);have HBW:=hide (fun(V:World) (hV:Below W3.heap.size W3 V)=>hbw.trans (hV.mono gw.top));obtain⟨lp',lc',hlv,hlg⟩:=Xf hl3;obtain⟨mp,mc,hmv,hmg⟩:=Xf c2;subst hlv hmv;have hq:=XmS lp' E.length lc'
 have hen2:lp'≠none→en=0:=by
  intro hne;refine Classical.byContradiction fun he=>hne ?_
  have:=hnil he;simp at this;exact this.1
 have hcell:∀(V:World) (hV:Below W3.heap.size W3 V) (k:Nat) (hk:k<E.length),∃g g2,lp'=some ⟨g,0,none⟩∧mp=some ⟨g2,0,none⟩∧V.cell? ⟨g,k,none⟩=some (.int .i64 (E[k]:Nat))∧V.cell? ⟨g2,k,none⟩=some (.int .i64 (E[k]:Nat)):=by
  intro V hV k hk;obtain⟨g,rfl⟩:=hlg (by omega);obtain⟨g2,rfl⟩:=hmg (by omega);have r1:=Xc hl3 (Xb.of hV (X:=fun _=>False)) (fun _ _ hx=>hx);have r2:=Xc c2 (Xb.of hV (X:=fun _=>False)) (fun _ _ hx=>hx);have hgk:(evV E)[k]?=some (.int .i64 (E[k]:Nat)):=by simp[evV,hk]
  have d1:=World.ownsRow.cells r1 (g:=g) rfl k _ hgk;have d2:=World.ownsRow.cells r2 (g:=g2) rfl k _ hgk;rw[Go.WideShapes.add_plain,Nat.zero_add]at d1 d2;exact⟨g,g2,rfl,rfl,d1,d2⟩
 have HC:=hide hcell;have hq3:=hq W3
 have hgd:((lp'.isNone||((en:Int)==0))=true):=by
  cases lp' with
  |none=>rfl
  |some a=>rw[hen2 (by simp)];rfl
 clear hcell a1 a2 a3 a4 a5 a6 c1 c2 c3 c4 c5 c6 c7 gw hl3 hlz hbw HA K2 b1 hp1 hnil hN H0 HB0 HBX hlg hmg hq hown;cases hlp:lp'.isNone
 all_goals
  rw[hlp]at hq3 hgd
  try (have hen0:en=0:=(by simpa using hgd);subst hen0)
  clear hgd hen2;go_wp2
  go_loopw [15,16] (fun a b wr=>a=.bool true∧(∃ k:Nat,k≤E.length∧b=.int .i64 k)∧Below W3.heap.size W3 wr) (fun _ b _=>E.length -(intOf b).toNat)
  case atStart=>exact⟨rfl,⟨0,Nat.zero_le _,rfl⟩,Below.refl _ _⟩
  case round=>
   obtain⟨rfl,⟨k,hk,rfl⟩,hwr⟩:=hrel;by_cases hlt:k<E.length
   ·obtain ⟨g,g2,rfl,rfl,d0,e0⟩:=Xa HC wr hwr k hlt;have HW:=hide hwr;clear hwr HK HC;generalize E[k]=y at*;have hltI:(k:Int)<(E.length:Int):=by omega
    go_wp2_with fail
    go_quiet (fail)
    go_wp2
    go_roundw
    case rel=>exact⟨rfl,⟨k+1,hlt,by go_num⟩,below_drewN (Xa HW) _⟩
    case measure=>simp[intOf];omega
   ·have hkt:k=E.length:=by omega
    subst hkt;have KK:=hide (Xa HK wr hwr);have HBV:=hide (Xa HBW wr hwr);clear HK HC hwr HBW;go_wp2_with fail
    refine(Xa KK).mono ?_;rintro e w3 ⟨rfl,own',x',g1,g2,g3⟩;have HL:Hid (Xdv B w wb ss x (ps.set n (p.to s')) 1 w3):=⟨own',x',g1,g2,(Xa HBV).trans g3⟩;clear g1 g2 g3 KK HBV;go_wp2
    go_ret
    exact⟨rfl,Xa HL⟩
theorem XhF {B:Nat}{w:World}{wb:Nat}{own:Nat→Nat}{ss:Value}{x:Lw}{ps:List Post}(h:Xx B w wb own ss x ps){n:Nat}{p:Post}(hp:ps[n]?=some p)(hev:∀q∈ps,q.even)(o:OpV)(hlv:∃lp ln lc,o.lv=.slice lp ln lc)(hob: -9223372036854775808≤o.b∧o.b≤9223372036854775807)(hod: -9223372036854775808≤o.d∧o.d≤9223372036854775807)(hps:ps.length≤200000000000)
  (hLm:∀m∈p.s.out,m.length≤1048576) (hN:x.b.eb.length+4*p.s.out.length≤4000000000000) (hF:x.b.el.length≤1099511627776) (hT:p.s.out.length≤100000000000)
  (hO:∀q∈ps,q.s.out.length≤100000000000∧q.s.events.length+2*p.s.out.length+2≤2199023255552):
  Calls Tryz.prog 20 #[.pointer (some ⟨wb,0,none⟩),Yb p,opV o] w fun e w'=>e=.returned (.bool true)∧XiC B w wb ss x (ps.set n (p.to (if p.cl then p.s else {p.s with out:=[]}))) (if p.cl then []else p.s.out) w':=by
 obtain⟨s1,hs1⟩:∃s1,(if p.cl then p.s else {p.s with out:=[]})=s1:=⟨_,rfl⟩;obtain⟨L,hL⟩:∃L,(if p.cl then []else p.s.out)=L:=⟨_,rfl⟩;rw[hs1,hL];obtain⟨lp,ln,lc,hlv⟩:=hlv;obtain⟨kind,a,b,d,s,lv,⟨fa,fk,fp,fns,fnr,info⟩,fq,fc,x0,x1,x2,x3,x4,x5⟩:=o;simp only at hlv hob hod;subst hlv;have hnp:0<ps.length:=by have:=(List.getElem?_eq_some_iff.1 hp).1;omega
 obtain⟨r,hr,hpick⟩:=JV b ps.length hob hnp hps;have hyr:ps[r]?=some ps[r]:=List.getElem?_eq_getElem hr;obtain⟨sp,scap,hss,hsg⟩:=Xf h.row;obtain⟨g,rfl⟩:=hsg hnp
 -- two boxes
 obtain⟨W0,hW0⟩:∃W0,(w.alloc (.cells #[.pointer (some ⟨p.pb,0,none⟩),.pointer (some ⟨p.rb,0,none⟩)] 56)).alloc (.cells #[.int .i64 kind,.int .i64 a,.int .i64 b,.int .i64 d,.string s,.slice lp ln lc,.int .i64 fa,.int .i64 fk,.bool fp,.int .i64 fns,.int .i64 fnr,.slice fq info.length fc,.int .i64 x0,.int .i64 x1,.int .i64 x2,.int .i64 x3,.int .i64 x4,.int .i64 x5] 34)=W0:=⟨_,rfl⟩;have hz0:W0.heap.size=w.heap.size+2:=by rw[← hW0,Xk,Xk]
 have hb0:Below w.heap.size w W0:=by rw[← hW0];exact((Below.refl _ w).alloc (Nat.le_refl _) _).alloc (by rw[Xk];omega) _
 have hbx:W0.heap[w.heap.size]?=some (.cells #[.pointer (some ⟨p.pb,0,none⟩),.pointer (some ⟨p.rb,0,none⟩)] 56 (0,0)):=by
  rw[← hW0,((Below.refl _ (w.alloc _)).alloc (Nat.le_refl _) _).block w.heap.size (by rw[Xk];omega)];exact Xg w _
 have hox:W0.heap[w.heap.size+1]?=some (.cells #[.int .i64 kind,.int .i64 a,.int .i64 b,.int .i64 d,.string s,.slice lp ln lc,.int .i64 fa,.int .i64 fk,.bool fp,.int .i64 fns,.int .i64 fnr,.slice fq info.length fc,.int .i64 x0,.int .i64 x1,.int .i64 x2,.int .i64 x3,.int .i64 x4,.int .i64 x5] 34 (0,0)):=by
  have:=Xg (w.alloc (.cells #[.pointer (some ⟨p.pb,0,none⟩),.pointer (some ⟨p.rb,0,none⟩)] 56)) (.cells #[.int .i64 kind,.int .i64 a,.int .i64 b,.int .i64 d,.string s,.slice lp ln lc,.int .i64 fa,.int .i64 fk,.bool fp,.int .i64 fns,.int .i64 fnr,.slice fq info.length fc,.int .i64 x0,.int .i64 x1,.int .i64 x2,.int .i64 x3,.int .i64 x4,.int .i64 x5] 34);rw[Xk,hW0]at this;exact this
 have h0:=h.later hb0;have e0:=Xb2 ps r hr;have yc0:=World.ownsRow.cells h0.row (g:=g) (by rw[hss];rfl) (r*2) _ e0.1;have yc1:=World.ownsRow.cells h0.row (g:=g) (by rw[hss];rfl) (r*2+1) _ e0.2;rw[Go.WideShapes.add_plain,Nat.zero_add]at yc0 yc1;have d1:=h0.lw.bk.head.cell 1 _ rfl;rw[hss]at d1;have o2:W0.cell? ⟨w.heap.size+1,2,none⟩=some (.int .i64 b):=by rw[Lib.cell_of_heap hox];rfl
 generalize ps[r]=y at*;have hnI:0<(ps.length:Int):=by omega
 have hrI:(r:Int)<(ps.length:Int):=by omega
 have HP:=hide hpick;have H:=hide h;have H0:=hide h0;have HB0:=hide (And.intro hb0 (And.intro hbx hox));unfold Yb opV;simp only;clear h h0 hpick hb0 hbx hox e0;go_enter Tryz.func20,Tryz.ntmps20
 go_upto_region 1 with fail
 try rw[hW0]
 clear hW0;generalize hnB:w.heap.size=nB at*;have hS0:W0.cell? ⟨wb,1,none⟩=some (.slice (some ⟨g,0,none⟩) ps.length scap)∧W0.cell? ⟨nB+1,2,none⟩=some (.int .i64 b)∧W0.cell? ⟨g,r*2,none⟩=some (.pointer (some ⟨y.pb,0,none⟩))∧W0.cell? ⟨g,r*2+1,none⟩=some (.pointer (some ⟨y.rb,0,none⟩)):=⟨d1,o2,yc0,yc1⟩;have hwl:wb<W0.heap.size:=((Xa H0).below (.inl (.inl rfl))).2;have hgl:g<W0.heap.size:=((Xa H0).below (k:=g) (.inr (.inr (by rw[hss];rfl)))).2
 have HSA:Hid (∀ o,(W0.alloc o).drew.cell? ⟨wb,1,none⟩=some (.slice (some ⟨g,0,none⟩) ps.length scap)∧(W0.alloc o).drew.cell? ⟨nB+1,2,none⟩=some (.int .i64 b)∧(W0.alloc o).drew.cell? ⟨g,r*2,none⟩=some (.pointer (some ⟨y.pb,0,none⟩))∧(W0.alloc o).drew.cell? ⟨g,r*2+1,none⟩=some (.pointer (some ⟨y.rb,0,none⟩))):=fun o=>by
  have hb:=((Below.refl W0.heap.size W0).alloc (Nat.le_refl _) o).drew;exact⟨(hb.cell (p:=⟨wb,1,none⟩) hwl).trans d1,(hb.cell (p:=⟨nB+1,2,none⟩) (by show nB+1<W0.heap.size;omega)).trans o2,(hb.cell (p:=⟨g,r*2,none⟩) hgl).trans yc0,(hb.cell (p:=⟨g,r*2+1,none⟩) hgl).trans yc1⟩
 have HS0:=hide hS0;clear hS0;go_cut [7]from 11 to 25 (fun z wx=>∃bx V,z=.pointer (some ⟨bx,0,none⟩)∧wx=V∧Below W0.heap.size W0 V∧W0.heap.size≤bx∧V.heap[bx]?=some (.cells #[.pointer (some ⟨y.pb,0,none⟩),.pointer (some ⟨y.rb,0,none⟩)] 56 (0,0)))
 case first=>
  clear d1 o2 yc0 yc1;go_region_held3 (fun w'=>w'.cell? ⟨wb,1,none⟩=some (.slice (some ⟨g,0,none⟩) ps.length scap)∧w'.cell? ⟨nB+1,2,none⟩=some (.int .i64 b)∧w'.cell? ⟨g,r*2,none⟩=some (.pointer (some ⟨y.pb,0,none⟩))∧w'.cell? ⟨g,r*2+1,none⟩=some (.pointer (some ⟨y.rb,0,none⟩))) (first|assumption|exact Xa HS0|exact Xa HSA _) (first|(go_at_call 16;refine(Xa HP _).mono ?_;rintro e w5 ⟨rfl,rfl⟩)|fail)
  all_goals go_wp2_with fail
  all_goals go_meet
  all_goals exact⟨_,_,rfl,rfl,((Below.refl W0.heap.size W0).alloc (Nat.le_refl _) _).drew,by omega,by rw[show nB+2=W0.heap.size by omega];exact Xg W0 _⟩
 case rest=>
 obtain⟨bx,V,rfl,hwV,hbV,hbxl,hbxo⟩:=hcut;rw[hwV];clear hwV
 have hLs:L.length≤p.s.out.length∧∀m∈L,m∈p.s.out:=by
  rw[← hL];split
  ·exact ⟨Nat.zero_le _,fun m hm=>by simp at hm⟩
  ·exact ⟨Nat.le_refl _,fun m hm=>hm⟩
 have hs1l:s1.out.length≤p.s.out.length∧s1.events=p.s.events:=by
  rw[← hs1];split
  ·exact ⟨Nat.le_refl _,rfl⟩
  ·exact ⟨Nat.zero_le _,rfl⟩
 obtain⟨hb0,hbx,hox⟩:=Xa HB0;have hzV:=hbV.size;have hgV:=(Xa H0).later hbV;have hbxV:=(hbV.block nB (by omega)).trans hbx;have hoxV:=(hbV.block (nB+1) (by omega)).trans hox;have kl:=Xfb hgV hp (hev p (Xl hp)) (by rw[hL];exact fun m hm=>hLm m (hLs.2 m hm)) (by rw[hL];have:=hLs.1;omega) hF (by rw[hL];have:=hLs.1;omega);rw[hs1,hL]at kl;unfold Yb at kl;have KL:=hide kl;have b0:V.cell? ⟨nB,0,none⟩=some (.pointer (some ⟨p.pb,0,none⟩)):=by rw[Lib.cell_of_heap hbxV];rfl
 have b1:V.cell? ⟨nB,1,none⟩=some (.pointer (some ⟨p.rb,0,none⟩)):=by rw[Lib.cell_of_heap hbxV];rfl
 have hown:∀k,nB≤k→own k=0∧¬Je wb ss x k:=fun k hk=>⟨(Xa H).Xp k (by omega),fun hg=>by have:=((Xa H).below hg).2;omega⟩
 -- the XiR that hears
 obtain⟨y1,hy1,hy1p,hy1r,hy1e,hy1o,hy1v⟩:∃y1,(ps.set n (p.to s1))[r]?=some y1∧y1.pb=y.pb∧y1.rb=y.rb∧y1.even∧y1.s.out.length≤100000000000∧y1.s.events.length+2*p.s.out.length+2≤2199023255552:=by
  have hym:=hO y (Xl hyr);by_cases e:r=n
  ·subst e;rw[hp]at hyr;cases hyr
   refine⟨p.to s1,Yq hp,rfl,rfl,⟨rfl,(hev p (Xl hp)).2⟩,?_,?_⟩
   ·show s1.out.length≤_
    have:=hs1l.1;omega
   ·show s1.events.length+_+_≤_
    rw[hs1l.2];exact hym.2
  ·refine ⟨y,?_,rfl,rfl,hev y (Xl hyr),hym.1,hym.2⟩;rw[List.getElem?_set,if_neg (fun e'=>e e'.symm)];exact hyr
 have HV:=hide (And.intro hgV (And.intro hoxV (And.intro hbxo (And.intro hbV hb0))));clear hgV hbxV hoxV kl hb0 hbx hox hbxo hbV HS0 HSA d1 o2 yc0 yc1 HB0 H0;go_wp2_with fail
 refine(Xa KL).mono ?_;rintro e w1 ⟨m,me,rfl,own1,x1',g1,g2,g3,g4,g5,g6⟩;dsimp only
 obtain⟨hgV,hoxV,hbxo,hbV,hb0⟩:=Xa HV;have hlbx:=(Array.getElem?_eq_some_iff.1 hbxo).1;have hlox:=(Array.getElem?_eq_some_iff.1 hoxV).1
 have hnot:∀k,nB≤k→¬(own k≠0∨Je wb ss x k):=fun k hk=>by
  rintro(e|e)
  ·exact e (hown k hk).1
  ·exact (hown k hk).2 e
 have hA:JM B w wb ss x (ps.set n (p.to s1)) r y1 L m me bx (.cells #[.pointer (some ⟨y.pb,0,none⟩),.pointer (some ⟨y.rb,0,none⟩)] 56 (0,0)) (nB+1) (.cells #[.int .i64 kind,.int .i64 a,.int .i64 b,.int .i64 d,.string s,.slice lp ln lc,.int .i64 fa,.int .i64 fk,.bool fp,.int .i64 fns,.int .i64 fnr,.slice fq info.length fc,.int .i64 x0,.int .i64 x1,.int .i64 x2,.int .i64 x3,.int .i64 x4,.int .i64 x5] 34 (0,0)) 0 w1 own1 x1' []:=by
  refine⟨List.nil_sublist _,?_,g3,g2,?_,⟨?_,g6 bx hlbx (hown bx (by omega)).1⟩,⟨?_,g6 (nB+1) hlox (hown (nB+1) (by omega)).1⟩⟩
  ·have e:y1.to (Yw y1.c y1.cl y1.s [])=y1:=by
    obtain⟨e1,e2⟩:=hy1e;obtain⟨ypb,yrb,yc,ys,ycl,yt,ydl⟩:=y1;simp only at e1;subst e1;rfl
   rw[e,set_self hy1];exact g1
  ·exact (hb0.mono (by have:=(Xa H).top;omega)).trans ((hbV.mono (by have:=(Xa H).top;omega)).trans g4)
  ·exact (g5.block bx hlbx (hnot bx (by omega))).trans hbxo
  ·exact (g5.block (nB+1) hlox (hnot (nB+1) (by omega))).trans hoxV
 have HA:=hide hA;obtain⟨mp,mc,hmv,_,_⟩:=g3.slice;have hmv':=hmv;subst hmv;have hbd:L.length≤100000000000:=by have:=hLs.1;omega
 have HH:=hide (fun(wr:World) (k:Nat) (own':Nat→Nat) (M:List Msg) (hk:k<L.length) (hAk:JM B w wb ss x (ps.set n (p.to s1)) r y1 L (.slice mp L.length mc) me bx (.cells #[.pointer (some ⟨y.pb,0,none⟩),.pointer (some ⟨y.rb,0,none⟩)] 56 (0,0)) (nB+1) (.cells #[.int .i64 kind,.int .i64 a,.int .i64 b,.int .i64 d,.string s,.slice lp ln lc,.int .i64 fa,.int .i64 fk,.bool fp,.int .i64 fns,.int .i64 fnr,.slice fq info.length fc,.int .i64 x0,.int .i64 x1,.int .i64 x2,.int .i64 x3,.int .i64 x4,.int .i64 x5] 34 (0,0)) k wr own' x1' M) (V:World) (hV:Below wr.heap.size wr V)=>hAk.hears hy1 hy1e hk (fun m hm=>hLm m (hLs.2 m hm)) (by omega) (by have:=hLs.1;omega) hV);unfold Yb at HH;rw[hy1p,hy1r]at HH;clear hA g1 g2 g3 g4 g5 g6 hgV hoxV hbxo hbV hb0 hlbx hlox hnot HV KL b0 b1 hown;generalize hOB:(Obj.cells #[.pointer (some ⟨y.pb,0,none⟩),.pointer (some ⟨y.rb,0,none⟩)] 56 (0,0))=OB at HA HH;generalize hOO:(Obj.cells #[.int .i64 kind,.int .i64 a,.int .i64 b,.int .i64 d,.string s,.slice lp ln lc,.int .i64 fa,.int .i64 fk,.bool fp,.int .i64 fns,.int .i64 fnr,.slice fq info.length fc,.int .i64 x0,.int .i64 x1,.int .i64 x2,.int .i64 x3,.int .i64 x4,.int .i64 x5] 34 (0,0))=OO at HA HH;go_wp2
 go_loopw [9,10] (fun z i wr=>z=.bool true∧∃k:Nat,k≤L.length∧i=.int .i64 k∧∃own' M,JM B w wb ss x (ps.set n (p.to s1)) r y1 L (.slice mp L.length mc) me bx OB (nB+1) OO k wr own' x1' M) (fun _ i _=>L.length -(intOf i).toNat)
 case atStart=>exact⟨rfl,0,Nat.zero_le _,rfl,_,_,Xa HA⟩
 case round=>
  obtain⟨rfl,k,hk,rfl,own',M,hAk⟩:=hrel;clear HA;by_cases hlt:k<L.length
  ·obtain ⟨gm,p1,q1,rfl,cm1,cv1⟩:=hAk.cell rfl hlt;have bo:=hAk.box.1;have oo:=hAk.obox.1;rw[← hOB]at bo;rw[← hOO]at oo;have b0:wr.cell? ⟨bx,0,none⟩=some (.pointer (some ⟨y.pb,0,none⟩)):=by rw[Lib.cell_of_heap bo];rfl
   have b1:wr.cell? ⟨bx,1,none⟩=some (.pointer (some ⟨y.rb,0,none⟩)):=by rw[Lib.cell_of_heap bo];rfl
   have o3:wr.cell? ⟨nB+1,3,none⟩=some (.int .i64 d):=by rw[Lib.cell_of_heap oo];rfl
   have KH:=hide (Xa HH wr k own' M hlt hAk);have HAK:=hide hAk;have hltI:(k:Int)<(L.length:Int):=by omega
   have cv0:=cv1 0;have cvd:(convert 28 9 (.slice p1 L[k].length q1)).run Tryz.prog wr.drew=.ok (.string ⟨L[k].toArray⟩) wr.drew:=cv1 1;clear bo oo hAk HH cv1;generalize L[k]=lk at*;go_wp2_with fail
   ·go_region_with (go_at_call 45;refine(Xa KH _ ?_).mono ?_;(first|exact Below.refl _ _|exact(Below.refl _ _).drew);rintro e w2 ⟨rfl,own2,M2,hA2⟩;have HA2:=hide hA2;clear hA2)
    all_goals go_wp2_with fail
    all_goals exact⟨⟨rfl,k+1,hlt,by go_num,_,_,Xa HA2⟩,by simp[intOf];omega⟩
   ·exact ⟨⟨rfl,k+1,hlt,by go_num,_,_,(Xa HAK).skip⟩,by simp[intOf];omega⟩
  ·have hkt:k=L.length:=by omega
   subst hkt;have HZ:Hid (XiC B w wb ss x (ps.set n (p.to s1)) L wr):=⟨r,y1,M,own',x1',hy1,by have:=hAk.sub;rwa [List.take_length]at this,hAk.gw,hAk.grew,hAk.bel⟩;clear hAk HH;go_wp2
   go_ret
   exact⟨rfl,Xa HZ⟩
end Go.Proofs.YtkalonhalhdlaaaGreatDoor
