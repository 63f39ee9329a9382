import Derived.Test.YtkalonhalhdlaaaGreatDoorG12
set_option maxHeartbeats 4000000
set_option maxRecDepth 100000
namespace Go.Proofs.YtkalonhalhdlaaaGreatDoor
open Go.RowKit
abbrev QN (W:World)(b off:Nat)(x:Value)(w':World):Prop:=w'.cell? ⟨b,off,none⟩=some x∧Below W.heap.size W w'
theorem QN.of {W w' w'':World}{b off n:Nat}{x:Value}(h:QN W b off x w')(hb:b<W.heap.size)(hbl:Below n w' w'')(hn:W.heap.size≤n):QN W b off x w'':=
 ⟨by rw[hbl.cell (p:=⟨b,off,none⟩) (by show b<n;omega)];exact h.1,h.2.trans (hbl.mono hn)⟩
theorem QN.alloc {W w':World}{b off:Nat}{x:Value}(h:QN W b off x w')(hb:b<W.heap.size)(o:Obj):QN W b off x (w'.alloc o):=
 h.of hb ((Below.refl w'.heap.size w').alloc (Nat.le_refl _) o) h.2.size
structure Xpo (V:World)(F:Nat):Prop where
 h:V.heap[F]?=some (.cells #[.int .i64 0,.int .i64 0,.bool false,.int .i64 0,.int .i64 0,.slice none 0 0] 30 (0,0))
 c0:V.cell? ⟨F,0,none⟩=some (.int .i64 0)
 c1:V.cell? ⟨F,1,none⟩=some (.int .i64 0)
 c2:V.cell? ⟨F,2,none⟩=some (.bool false)
 c3:V.cell? ⟨F,3,none⟩=some (.int .i64 0)
 c4:V.cell? ⟨F,4,none⟩=some (.int .i64 0)
 c5:V.cell? ⟨F,5,none⟩=some (.slice none 0 0)
 fz:∀i,V.frozen? ⟨F,i,none⟩=false
theorem XoS {W V:World}{n:Nat}(hbl:Below n (W.alloc (.cells #[.int .i64 0,.int .i64 0,.bool false,.int .i64 0,.int .i64 0,.slice none 0 0] 30)).drew V)(hn:W.heap.size<n):Xpo V W.heap.size:=by
 have h:V.heap[W.heap.size]?=some (.cells #[.int .i64 0,.int .i64 0,.bool false,.int .i64 0,.int .i64 0,.slice none 0 0] 30 (0,0)):=(hbl.block W.heap.size hn).trans Array.getElem?_push_size;exact⟨h,by rw[Lib.cell_of_heap h];rfl,by rw[Lib.cell_of_heap h];rfl,by rw[Lib.cell_of_heap h];rfl,by rw[Lib.cell_of_heap h];rfl,by rw[Lib.cell_of_heap h];rfl,by rw[Lib.cell_of_heap h];rfl,fun i=>Lib.frozen_of_heap h i⟩
theorem Xpe {W0 w5:World}{x:UInt8}{kz:Nat}(hbl:Below W0.drew.heap.size W0.drew w5):∃F,Value.pointer (some ⟨w5.heap.size,0,none⟩)=.pointer (some ⟨F,0,none⟩)∧W0.heap.size≤F∧(w5.alloc (.cells #[.int .i64 (x.toNat:Int),.int .i64 (kz:Nat),.bool false,.int .i64 0,.int .i64 0,.slice none 0 0] 30)).heap[F]?=some (.cells #[.int .i64 (x.toNat:Int),.int .i64 (kz:Nat),.bool false,.int .i64 0,.int .i64 0,.slice none 0 0] 30 (0,0))∧Below W0.heap.size W0 (w5.alloc (.cells #[.int .i64 (x.toNat:Int),.int .i64 (kz:Nat),.bool false,.int .i64 0,.int .i64 0,.slice none 0 0] 30)):=
 ⟨w5.heap.size,rfl,hbl.size,Array.getElem?_push_size,((Below.refl _ W0).drew.trans hbl).alloc hbl.size _⟩
theorem Xpf {W0 w5:World}{x:UInt8}{kz:Nat}(hbl:Below (W0.alloc (.cells #[.int .i64 0,.int .i64 0,.bool false,.int .i64 0,.int .i64 0,.slice none 0 0] 30)).drew.heap.size (W0.alloc (.cells #[.int .i64 0,.int .i64 0,.bool false,.int .i64 0,.int .i64 0,.slice none 0 0] 30)).drew w5):∃F,Value.pointer (some ⟨W0.heap.size,0,none⟩)=.pointer (some ⟨F,0,none⟩)∧W0.heap.size≤F∧(((((((w5.setCell ⟨W0.heap.size,0,none⟩ (.int .i64 (x.toNat:Int))).setCell ⟨W0.heap.size,1,none⟩ (.int .i64 (kz:Nat))).setCell ⟨W0.heap.size,2,none⟩ (.bool false)).setCell ⟨W0.heap.size,3,none⟩ (.int .i64 0)).setCell ⟨W0.heap.size,4,none⟩ (.int .i64 0)).setCell ⟨W0.heap.size,5,none⟩ (.slice none 0 0))).heap[F]?=some (.cells #[.int .i64 (x.toNat:Int),.int .i64 (kz:Nat),.bool false,.int .i64 0,.int .i64 0,.slice none 0 0] 30 (0,0))∧Below W0.heap.size W0 (((((((w5.setCell ⟨W0.heap.size,0,none⟩ (.int .i64 (x.toNat:Int))).setCell ⟨W0.heap.size,1,none⟩ (.int .i64 (kz:Nat))).setCell ⟨W0.heap.size,2,none⟩ (.bool false)).setCell ⟨W0.heap.size,3,none⟩ (.int .i64 0)).setCell ⟨W0.heap.size,4,none⟩ (.int .i64 0)).setCell ⟨W0.heap.size,5,none⟩ (.slice none 0 0))):=by
 have h0:=(XoS hbl (by simp)).h;have h1:=Xm (j:=5) (Xm (j:=4) (Xm (j:=3) (Xm (j:=2) (Xm (j:=1) (Xm (j:=0) h0 (.int .i64 (x.toNat:Int))) (.int .i64 (kz:Nat))) (.bool false)) (.int .i64 0)) (.int .i64 0)) (.slice none 0 0);have hb:Below W0.heap.size W0 w5:=(((Below.refl _ W0).alloc (Nat.le_refl _) _).drew).trans (hbl.mono (by simp));exact⟨W0.heap.size,rfl,Nat.le_refl _,h1,(((((hb.setCell (Nat.le_refl _) _).setCell (Nat.le_refl _) _).setCell (Nat.le_refl _) _).setCell (Nat.le_refl _) _).setCell (Nat.le_refl _) _).setCell (Nat.le_refl _) _⟩
theorem XgJ {m c k n r:Nat}(h:XE m c k n=some r):c &&& maskN m r=Xv m r:=by
 induction n generalizing k with
 |zero=>simp[XE]at h
 |succ n ih=>
  unfold XE at h;split at h
  ·simp at h;subst h;assumption
  ·exact ih h
theorem Xdz (n:Nat):((n:Int) / 16%2==1)=decide (n &&& 16≠0):=by
 have h:n &&& 16=(n / 16%2)*16:=by
  have h2:n.testBit 4=decide (n / 16%2=1):=by
   rw[Nat.testBit_eq_decide_div_mod_eq]
  apply Nat.eq_of_testBit_eq
  intro i;rw[Nat.testBit_and,show(16:Nat)=2 ^ 4 by rfl,Nat.testBit_two_pow];by_cases hi:4=i
  ·subst hi;rw[h2];by_cases h:n / 16%2=1
   ·simp[h];decide
   ·have:n / 16%2=0:=by omega
    simp[this]
  ·have e:(n / 16%2*2 ^ 4).testBit i=false:=by
    have h01:n / 16%2=0∨n / 16%2=1:=by omega
    rcases h01 with h|h
    ·rw[h];simp
    ·rw[h,Nat.one_mul,Nat.testBit_two_pow];simp[hi]
   simp[hi];exact e
 rw[h];by_cases h:n / 16%2=1
 ·have:(n:Int) / 16%2=1:=by omega
  simp[h,this]
 ·have h0:n / 16%2=0:=by omega
  have:(n:Int) / 16%2=0:=by omega
  simp[h0,this]
theorem Xff (n:Nat):((n:Int)%2==1)=decide (n%2≠0):=by
 by_cases h:n%2=1
 ·have:(n:Int)%2=1:=by omega
  simp[h,this]
 ·have h0:n%2=0:=by omega
  have:(n:Int)%2=0:=by omega
  simp[h0,this]
theorem Xm8:∀(c:Fin 256) (m:Fin 129) (k:Fin 10),(m.val=8∨m.val=128)→4<k.val→c.val &&& maskN m.val k.val=Xv m.val k.val→((c.val:Int) !=(Xv m.val k.val:Nat))=decide (c.val &&& 16≠0):=by
 intro c m k hm;have:∀(c:Fin 256) (k:Fin 10),4<k.val→(c.val &&& maskN 8 k.val=Xv 8 k.val→((c.val:Int) !=(Xv 8 k.val:Nat))=decide (c.val &&& 16≠0))∧(c.val &&& maskN 128 k.val=Xv 128 k.val→((c.val:Int) !=(Xv 128 k.val:Nat))=decide (c.val &&& 16≠0)):=by decide +kernel
 rcases hm with e|e
 ·intro h;rw[e];exact(this c k h).1
 ·intro h;rw[e];exact(this c k h).2
theorem Xie (m b off c:Nat)(x y:UInt8)(r:List UInt8)(w:World)(hm:m=8∨m=128)(ha:XL x.toNat=true)(hseg:Seg w b off (x::y::r))(hb:b<w.heap.size)(hl:r.length≤1048576)(hc:r.length+2≤c):
  Calls Tryz.prog 36 #[.int .i64 m,.slice (some ⟨b,off,none⟩) (r.length+2) c] w fun e w'=>∃q cp,e=.returned (.tuple #[.agg #[.int .i64 (Xi m (x::y::r)).2.a,.int .i64 (Xi m (x::y::r)).2.k,.bool (Xi m (x::y::r)).2.p,.int .i64 (Xi m (x::y::r)).2.ns,.int .i64 (Xi m (x::y::r)).2.nr,.slice q (Xi m (x::y::r)).2.info.length cp],.int .i64 ((Xi m (x::y::r)).1:Nat)])∧w'.ownsRow w.heap.size 5 1 (.slice q (Xi m (x::y::r)).2.info.length cp) (Xi m (x::y::r)).2.info.length (Lib.byteCells (Xi m (x::y::r)).2.info)∧((Xi m (x::y::r)).1≠0→q=none)∧Below w.heap.size w w':=by
 have hx8:x.toNat<256:=x.toNat_lt;have hy8:y.toNat<256:=y.toNat_lt
 have hxx:x.toNat=1∨x.toNat=3:=by
  simp only[XL,Bool.or_eq_true,decide_eq_true_eq]at ha;omega
 have cK:=fun W=>XfH m y.toNat hm hy8 W
 obtain⟨rd,hrd⟩:∃rd,Xi m (x::y::r)=rd:=⟨_,rfl⟩;rw[hrd];have HRD:=hide hrd;have hne:¬b=w.heap.size:=by omega
 have hA:∀o,Below w.heap.size w (w.alloc o):=fun o=>(Below.refl _ w).alloc (Nat.le_refl _) o
 have hx0:w.cell? ⟨b,off,none⟩=some (.int .u8 (x.toNat:Int)):=by simpa using hseg 0 (by simp)
 have hy0:w.cell? ⟨b,off+1,none⟩=some (.int .u8 (y.toNat:Int)):=by simpa using hseg 1 (by simp)
 have hx1:∀o,(w.alloc o).cell? ⟨b,off,none⟩=some (.int .u8 (x.toNat:Int)):=fun o=>by rw[(hA o).cell (p:=⟨b,off,none⟩) hb];exact hx0
 have hy1:∀o,(w.alloc o).cell? ⟨b,off+1,none⟩=some (.int .u8 (y.toNat:Int)):=fun o=>by rw[(hA o).cell (p:=⟨b,off+1,none⟩) hb];exact hy0
 have n0:((r.length:Int)+2==0)=false:=by simp;omega
 have n1:((r.length:Int)+2==1)=false:=by simp;omega
 have n2:(0:Int)<(r.length:Int)+2:=by omega
 have n3:(1:Int)<(r.length:Int)+2:=by omega
 clear hrd;generalize hkz:XnO (XE m y.toNat 1 9)=kz at cK;go_enter Tryz.func36,Tryz.ntmps36
 go_upto_region 1 with fail
 go_cut [16]from 11 (fun s16 wx=>s16=.bool false∧wx=w.alloc (.cells #[.int .i64 0,.int .i64 0,.bool false,.int .i64 0,.int .i64 0,.slice none 0 0] 30))
 case first=>
  rcases hm with rfl|rfl
  ·go_wp2
   go_meet
   case rel=>exact⟨rfl,rfl⟩
  ·go_wp2
   go_meet
   case rel=>exact⟨rfl,rfl⟩
 case rest=>
  obtain⟨rfl,rfl⟩:=hcut;go_upto_region 5 with fail
  go_cut [31]from 11 (fun s31 wx=>s31=.bool false∧wx=w.alloc (.cells #[.int .i64 0,.int .i64 0,.bool false,.int .i64 0,.int .i64 0,.slice none 0 0] 30))
  case first=>
   rcases hxx with e|e
   ·rw[e]at hx1;go_wp2
    go_meet
    case rel=>exact⟨rfl,rfl⟩
   ·rw[e]at hx1;go_wp2
    go_meet
    case rel=>exact⟨rfl,rfl⟩
  case rest=>
   obtain⟨rfl,rfl⟩:=hcut;go_upto_region 10 with fail
   obtain⟨W0,hW0⟩:∃W0,W0=w.alloc (.cells #[.int .i64 0,.int .i64 0,.bool false,.int .i64 0,.int .i64 0,.slice none 0 0] 30):=⟨_,rfl⟩;rw[← hW0];have hR0:W0.heap[w.heap.size]?=some (.cells #[.int .i64 0,.int .i64 0,.bool false,.int .i64 0,.int .i64 0,.slice none 0 0] 30 (0,0)):=by rw[hW0];exact Array.getElem?_push_size
   have hb0:Below w.heap.size w W0:=by rw[hW0];exact hA _
   have hz0:W0.heap.size=w.heap.size+1:=by rw[hW0];simp
   have hH0:QN W0 b off (.int .u8 (x.toNat:Int)) W0:=⟨by rw[hW0];exact hx1 _,Below.refl _ _⟩;have hbW:b<W0.heap.size:=by omega
   have HR0:=hide hR0;have HZ0:=hide hz0;clear hW0 hx1 hy1 hx0 hy0 hA hR0 hz0;go_cut [7]from 11 (fun s7 wx=>∃F,s7=.pointer (some ⟨F,0,none⟩)∧W0.heap.size≤F∧wx.heap[F]?=some (.cells #[.int .i64 (x.toNat:Int),.int .i64 (kz:Nat),.bool false,.int .i64 0,.int .i64 0,.slice none 0 0] 30 (0,0))∧Below W0.heap.size W0 wx)
   case first=>
    have hxW:=hH0.1;have hneW:¬b=W0.heap.size:=by omega
    have hwx:IntKind.i64.wrap (x.toNat:Int)=(x.toNat:Int):=by rw[IntKind.wrap_i64];omega
    have hxWa:∀o,(W0.alloc o).cell? ⟨b,off,none⟩=some (.int .u8 (x.toNat:Int)):=fun o=>(QN.alloc hH0 hbW o).1
    go_region_with (go_at_call 86;refine(cK _).mono ?_;rintro e w5 ⟨rfl,hbl⟩;have hx5:w5.cell? ⟨b,off,none⟩=some (.int .u8 (x.toNat:Int)):=(by rw[hbl.cell (p:=⟨b,off,none⟩) (by first|exact hbW|(show b<_;simp;omega))];first|exact hxW|exact hxWa _);have hx5a:∀o,(w5.alloc o).cell? ⟨b,off,none⟩=some (.int .u8 (x.toNat:Int)):=(fun o=>(((Below.refl w5.heap.size w5).alloc (Nat.le_refl _) o).cell (p:=⟨b,off,none⟩) (World.block_lt_of_cell? w5 _ hx5)).trans hx5);try (have hF5:=XoS (W:=W0) hbl (by simp);have f0:=hF5.c0;have f1:=hF5.c1;have f2:=hF5.c2;have f3:=hF5.c3;have f4:=hF5.c4;have f5:=hF5.c5;have ff:=hF5.fz))
    all_goals go_wp2_with fail
    all_goals go_meet
    all_goals first|(have hq:Below W0.drew.heap.size W0.drew w5:=(by assumption);exact Xpe hq)|exact Xpf hbl
   case rest=>
    obtain⟨F,rfl,hF,hRF,hbF⟩:=hcut;rename_i wc
    have hbx:Below w.heap.size w wc:=hb0.trans (hbF.mono (by have:=Xa HZ0;omega));have hzF:w.heap.size<F:=by have:=Xa HZ0;omega
    have hsx:Seg wc b off (x::y::r):=hseg.below hbx hb;have hRw:wc.heap[w.heap.size]?=some (.cells #[.int .i64 0,.int .i64 0,.bool false,.int .i64 0,.int .i64 0,.slice none 0 0] 30 (0,0)):=by rw[hbF.block w.heap.size (by have:=Xa HZ0;omega)];exact Xa HR0
    have f1:wc.cell? ⟨F,1,none⟩=some (.int .i64 (kz:Nat)):=by rw[Lib.cell_of_heap hRF];rfl
    have r0:wc.cell? ⟨w.heap.size,0,none⟩=some (.int .i64 0):=by rw[Lib.cell_of_heap hRw];rfl
    have r1:wc.cell? ⟨w.heap.size,1,none⟩=some (.int .i64 0):=by rw[Lib.cell_of_heap hRw];rfl
    have r2:wc.cell? ⟨w.heap.size,2,none⟩=some (.bool false):=by rw[Lib.cell_of_heap hRw];rfl
    have r3:wc.cell? ⟨w.heap.size,3,none⟩=some (.int .i64 0):=by rw[Lib.cell_of_heap hRw];rfl
    have r4:wc.cell? ⟨w.heap.size,4,none⟩=some (.int .i64 0):=by rw[Lib.cell_of_heap hRw];rfl
    have r5:wc.cell? ⟨w.heap.size,5,none⟩=some (.slice none 0 0):=by rw[Lib.cell_of_heap hRw];rfl
    have rf:∀i,wc.frozen? ⟨w.heap.size,i,none⟩=false:=fun i=>Lib.frozen_of_heap hRw i
    have hmi:XP (m:Int)=true:=by rcases hm with rfl|rfl <;> rfl
    have HBX:=hide hbx;have HSX:=hide hsx;have HRF:=hide hRF;have HRW:=hide hRw;have HBF:=hide hbF;clear hbx hsx hRF hRw hbF;cases hkk:XE m y.toNat 1 9 with
    |none=>
     rw[hkk]at hkz;have hk0:kz=0:=hkz.symm;subst hk0;have hrd:rd=(4,ZK):=by rw[← Xa HRD];simp[Xi,XK,hmi,ha,hkk]
     subst hrd;go_wp2
     refine bodyPost_ret (v:=.tuple #[frZ,.int .i64 4]) (by simp[results,Tryz.results36,go_sem,frZ,r0,r1,r2,r3,r4,r5]) rfl ⟨none,0,rfl,World.ownsRow_nil _ _ _ _,by simp,?_⟩;exact((((((Xa HBX).setCell (Nat.le_refl _) _).setCell (Nat.le_refl _) _).setCell (Nat.le_refl _) _).setCell (Nat.le_refl _) _).setCell (Nat.le_refl _) _).setCell (Nat.le_refl _) _
    |some k=>
     have hk19:=Jr hkk;have hkb:=XgJ hkk;rw[hkk]at hkz;have hk0:kz=k:=hkz.symm;subst hk0;have hk9:kz≤9:=by omega
     have cN:=fun W=>Qs (kz:Int) W
     obtain⟨hr,hhr⟩:∃hr,XJ (kz:Int)=hr:=⟨_,rfl⟩;rw[hhr]at cN;have cB:=fun W=>Xbl m kz hk9 W
     have hkz0:((kz:Int)==0)=false:=by simp;omega
     have hkl:XK m (x::y::r)=(kz,0):=by simp[XK,hmi,ha,hkk]
     have hFl:F<wc.heap.size:=(Array.getElem?_eq_some_iff.1 (Xa HRF)).1;have hbF1:¬b=F:=by omega
     have hbF2:¬F=b:=by omega
     have ff:∀i,wc.frozen? ⟨F,i,none⟩=false:=fun i=>Lib.frozen_of_heap (Xa HRF) i
     have f2:wc.cell? ⟨F,2,none⟩=some (.bool false):=by rw[Lib.cell_of_heap (Xa HRF)];rfl
     have f3:wc.cell? ⟨F,3,none⟩=some (.int .i64 0):=by rw[Lib.cell_of_heap (Xa HRF)];rfl
     have f4:wc.cell? ⟨F,4,none⟩=some (.int .i64 0):=by rw[Lib.cell_of_heap (Xa HRF)];rfl
     clear hkz hkk;go_wp2_with fail
     refine(cN _).mono ?_;rintro e W1 ⟨rfl,rfl⟩;clear cN;go_upto_block 0 with fail
     go_cut [9]from 11 (fun s9 wx=>s9=.int .i64 ((1+cbN m kz:Nat):Int)∧1+cbN m kz≤r.length+2∧wx.heap[F]?=some (.cells #[.int .i64 (x.toNat:Int),.int .i64 (kz:Nat),.bool (XY m kz (y::r)).p,.int .i64 (XY m kz (y::r)).ns,.int .i64 (XY m kz (y::r)).nr,.slice none 0 0] 30 (0,0))∧Below W0.heap.size W0 wx)
     case first=>
      by_cases h4:4<kz
      ·have hh:hr=false:=by rw[← hhr];simp[XJ];omega
       subst hh;go_wp2_with fail
       refine(cB _).mono ?_;rintro e w5 ⟨rfl,hb5⟩;have hR5:=(hb5.block F hFl).trans (Xa HRF);have k2:w5.cell? ⟨F,2,none⟩=some (.bool false):=by rw[Lib.cell_of_heap hR5];rfl
       have kf:∀i,w5.frozen? ⟨F,i,none⟩=false:=fun i=>Lib.frozen_of_heap hR5 i
       have HR5:=hide hR5;have HB5:=hide hb5;clear hR5 hb5;go_wp2
       go_meet
       have hcb:cbN m kz=1:=by simp[cbN,wide];omega
       refine⟨by rw[hcb];rfl,by omega,(Xm (Xa HR5) _).trans ?_,((Xa HBF).trans ((Xa HB5).mono (Xa HBF).size)).setCell hF _⟩;have hp:=Xm8 ⟨y.toNat,hy8⟩ ⟨m,by omega⟩ ⟨kz,by omega⟩ hm h4 hkb;simp only at hp;rw[hp];simp[XY,h4]
      ·have hh:hr=true:=by rw[← hhr];simp[XJ];omega
       subst hh;rcases hm with rfl|rfl
       ·have hcb:cbN 8 kz=1:=by simp[cbN,wide]
        by_cases h1:kz=1
        ·have h1b:((kz:Int)==1)=true:=by simp[h1]
         go_wp2
         go_meet
         refine⟨by rw[hcb];rfl,by omega,(Xm (Xm (Xm (Xa HRF) _) _) _).trans ?_,(((Xa HBF).setCell hF _).setCell hF _).setCell hF _⟩;rw[Xdz];simp[XY,h1]
        ·have h1b:((kz:Int)==1)=false:=by simp;omega
         go_wp2
         go_meet
         refine⟨by rw[hcb];rfl,by omega,(Xm (Xm (Xa HRF) _) _).trans ?_,((Xa HBF).setCell hF _).setCell hF _⟩;rw[Xdz];simp[XY,h1,h4]
       ·have hcb:cbN 128 kz=2:=by simp[cbN,wide];omega
        by_cases hr0:r.length=0
        ·have hrd:rd=(2,ZK):=by
          rw[← Xa HRD];unfold Xi;rw[hkl];simp[hcb,hr0]
         subst hrd;have hl2:((r.length:Int)+2==2)=true:=by simp;omega
         go_wp2
         refine bodyPost_ret (v:=.tuple #[frZ,.int .i64 2]) (by simp[results,Tryz.results36,go_sem,frZ,r0,r1,r2,r3,r4,r5]) rfl ⟨none,0,rfl,World.ownsRow_nil _ _ _ _,by simp,?_⟩;exact((((((Xa HBX).setCell (Nat.le_refl _) _).setCell (Nat.le_refl _) _).setCell (Nat.le_refl _) _).setCell (Nat.le_refl _) _).setCell (Nat.le_refl _) _).setCell (Nat.le_refl _) _
        ·have hl2:((r.length:Int)+2==2)=false:=by simp;omega
         have hl3:(2:Int)<(r.length:Int)+2:=by omega
         obtain⟨z,hz⟩:∃z:UInt8,r[0]?.getD 0=z:=⟨_,rfl⟩
         have hz0:W1.cell? ⟨b,off+2,none⟩=some (.int .u8 (z.toNat:Int)):=by
          have:=Xa HSX 2 (by simp;omega);simpa[hz]using this
         have hz8:z.toNat<256:=z.toNat_lt;have hy7:y.toNat / 2%128=y.toNat / 2:=by omega
         by_cases h1:kz=1
         ·have h1b:((kz:Int)==1)=true:=by simp[h1]
          go_wp2
          go_meet
          refine⟨by rw[hcb];rfl,by omega,(Xm (Xm (Xm (Xa HRF) _) _) _).trans ?_,(((Xa HBF).setCell hF _).setCell hF _).setCell hF _⟩;rw[Xff];simp[XY,h1,hz,hy7]
         ·have h1b:((kz:Int)==1)=false:=by simp;omega
          go_wp2
          go_meet
          refine⟨by rw[hcb];rfl,by omega,(Xm (Xm (Xa HRF) _) _).trans ?_,((Xa HBF).setCell hF _).setCell hF _⟩;rw[Xff];simp[XY,h1,h4,hz]
     case rest=>
      obtain⟨rfl,hlen,hRx,hbx2⟩:=hcut;obtain⟨W2,hW2⟩:∃W2,wc=W2:=⟨_,rfl⟩;rw[hW2]at hRx hbx2⊢;clear hW2;obtain⟨i0,hi0,hz0,hz1',hz2'⟩:=info_parts infoByte;clear cB f1 f2 f3 f4 ff r0 r1 r2 r3 r4 r5 rf;have hbw2:Below w.heap.size w W2:=hb0.trans (hbx2.mono (by have:=Xa HZ0;omega));have hRw2:W2.heap[w.heap.size]?=some (.cells #[.int .i64 0,.int .i64 0,.bool false,.int .i64 0,.int .i64 0,.slice none 0 0] 30 (0,0)):=by rw[hbx2.block w.heap.size (by have:=Xa HZ0;omega)];exact Xa HR0
      have g1:W2.cell? ⟨F,1,none⟩=some (.int .i64 (kz:Nat)):=by rw[Lib.cell_of_heap hRx];rfl
      have hs2:Seg W2 b off (x::y::r):=hseg.below hbw2 hb;obtain⟨cb,hcb⟩:∃cb,cbN m kz=cb:=⟨_,rfl⟩;rw[hcb]at hlen⊢;have e9:((1+cb:Nat):Int)=1+(cb:Int):=by omega
      rw[e9];have cI:=fun W=>Xa1 (m:Int) (kz:Int) (r.length+2 -(1+cb):Nat) W
      have hsub:((r.length+2 -(1+cb):Nat):Int)=(r.length:Int)+2 -(1+(cb:Int)):=by omega
      obtain⟨ii,hii⟩:∃ii,Yc m kz (r.length+2 -(1+cb):Nat)=ii:=⟨_,rfl⟩;rw[hii,hsub]at cI;have hcb2:cb=1∨cb=2:=by rw[← hcb];unfold cbN;split <;> omega
      have hkl2:(x::y::r).length=r.length+2:=by simp
      have HRX:=hide hRx;have HRW2:=hide hRw2;have HBW2:=hide hbw2;have HS2:=hide hs2;clear hRx hRw2 hbw2 hs2 hbx2;go_wp2_with fail
      refine(cI _).mono ?_;rintro e W3 ⟨rfl,rfl⟩;cases ii with
      |false=>
       have hrd:rd=(5,ZK):=by
        rw[← Xa HRD];unfold Xi;rw[hkl];simp only[Int.toNat_natCast];rw[if_neg (by simp),hcb,hkl2,if_neg (by omega),if_pos hii]
       subst hrd;have r0:W3.cell? ⟨w.heap.size,0,none⟩=some (.int .i64 0):=by rw[Lib.cell_of_heap (Xa HRW2)];rfl
       have r1:W3.cell? ⟨w.heap.size,1,none⟩=some (.int .i64 0):=by rw[Lib.cell_of_heap (Xa HRW2)];rfl
       have r2:W3.cell? ⟨w.heap.size,2,none⟩=some (.bool false):=by rw[Lib.cell_of_heap (Xa HRW2)];rfl
       have r3:W3.cell? ⟨w.heap.size,3,none⟩=some (.int .i64 0):=by rw[Lib.cell_of_heap (Xa HRW2)];rfl
       have r4:W3.cell? ⟨w.heap.size,4,none⟩=some (.int .i64 0):=by rw[Lib.cell_of_heap (Xa HRW2)];rfl
       have r5:W3.cell? ⟨w.heap.size,5,none⟩=some (.slice none 0 0):=by rw[Lib.cell_of_heap (Xa HRW2)];rfl
       have rf:∀i,W3.frozen? ⟨w.heap.size,i,none⟩=false:=fun i=>Lib.frozen_of_heap (Xa HRW2) i
       go_wp2
       refine bodyPost_ret (v:=.tuple #[frZ,.int .i64 5]) (by simp[results,Tryz.results36,go_sem,frZ,r0,r1,r2,r3,r4,r5]) rfl ⟨none,0,rfl,World.ownsRow_nil _ _ _ _,by simp,?_⟩;exact((((((Xa HBW2).setCell (Nat.le_refl _) _).setCell (Nat.le_refl _) _).setCell (Nat.le_refl _) _).setCell (Nat.le_refl _) _).setCell (Nat.le_refl _) _).setCell (Nat.le_refl _) _
      |true=>
       have hrd:rd=(0,{XY m kz (y::r)with a:=x.toNat,info:=(y::r).drop cb}):=by
        rw[← Xa HRD];unfold Xi;rw[hkl];simp only[Int.toNat_natCast];rw[if_neg (by simp),hcb,hkl2,if_neg (by omega),if_neg (by rw[hii];simp)];have e1:(x::y::r).drop (1+cb)=(y::r).drop cb:=by rw[Nat.add_comm];rfl
        rw[e1];rfl
       subst hrd;have e3:=Xgb m kz (y::r);obtain⟨pp,hpp⟩:∃pp,(XY m kz (y::r)).p=pp:=⟨_,rfl⟩;obtain⟨nsv,hns⟩:∃nsv,(XY m kz (y::r)).ns=nsv:=⟨_,rfl⟩;obtain⟨nrv,hnr⟩:∃nrv,(XY m kz (y::r)).nr=nrv:=⟨_,rfl⟩;have hF:=Xa HRX;rw[hpp,hns,hnr]at hF;have HPP:=hide hpp;have HNS:=hide hns;have HNR:=hide hnr;have HE3:=hide e3;have hR:=Xa HRW2;have hc5:W3.cell? ⟨F,5,none⟩=some (.slice none 0 0):=by rw[Lib.cell_of_heap hF];rfl
       have hf5:W3.frozen? ⟨F,5,none⟩=false:=Lib.frozen_of_heap hF 5;have hst:∀w,(Instr.sliceAt 28 (.slice (some ⟨b,off,none⟩) (r.length+2) c) (some (.int .i64 (1+(cb:Int)))) none none).run Tryz.prog w=.ok (.slice (some ⟨b,QM off c cb,none⟩) (r.length+1-cb) (c -(1+cb))) w:=fun w=>Xd9 b off (r.length+1) c cb (by omega) w
       have hs3:Seg W3 b (off+(1+cb)) ((y::r).drop cb):=by
        intro i hi;simp at hi;have:=Xa HS2 (i+cb+1) (by simp;omega);rw[show off+(1+cb)+i=off+(i+cb+1) by omega,this];simp[List.getD,Nat.add_comm]
       have hs4:Seg W3 b (QM off c cb) ((y::r).drop cb):=by
        unfold QM;split
        ·have:(y::r).drop cb=[]:=List.drop_eq_nil_iff.2 (by simp;omega);rw[this];exact Seg.nil _ _ _
        ·exact hs3
       have hdl:((y::r).drop cb).length=r.length+1-cb:=by simp
       have hFl2:F<W3.heap.size:=(Array.getElem?_eq_some_iff.1 hF).1;generalize QM off c cb=tof at hst hs4;obtain⟨rd,hrd⟩:∃rd,(y::r).drop cb=rd:=⟨_,rfl⟩;obtain⟨n,hnn⟩:∃n,r.length+1-cb=n:=⟨_,rfl⟩;rw[hrd]at hs4 hdl;rw[hnn]at hst hdl;have HRDL:=hide hrd;have HNN:=hide hnn;have hn48:n≤1048577:=by omega
       generalize c -(1+cb)=cc at hst;clear hs3 HRX HRW2 HS2 HRD HR0 HRF HRW HBF HSX hsub cI g1 hkl hkb hrd hnn hpp hns hnr hii e3 hseg hH0;go_upto_region 32 with fail
       go_region_law ((refine Xbj _ (by rfl) _ _ 28 (by rfl) W3.heap.size 5 i0 _ 1 1 Tryz.underlying28 hi0 hz0 hz1' hz2' rfl (by omega) (.slice none 0 0) 0 [] (by rfl) (World.ownsRow_nil _ _ _ _) ⟨b,tof,none⟩ n cc (Lib.byteCells rd) (by rfl) ?a1 ?a2 ?a3 ?a4 ?a5 ?a6 ?_;(case a1=>simp[Lib.byteCells,hdl]);(case a2=>exact hs4.news);(case a3=>exact byteCells_one rd);(case a4=>unfold maxLen;omega);(case a5=>omega);(case a6=>simp);intro v1 w1 hown1 hg1 hnil1;obtain⟨q1,cp1,rfl⟩:=Q3 hown1;have hF1:=(hg1.block F (by show F<W3.heap.size;omega) (by simp[Value.ownBlock])).trans hF;have k5:w1.cell? ⟨F,5,none⟩=some (.slice none 0 0):=(by rw[Lib.cell_of_heap hF1];rfl);have kf5:w1.frozen? ⟨F,5,none⟩=false:=Lib.frozen_of_heap hF1 5))
       all_goals
        have hR1:=(hg1.block w.heap.size (by show w.heap.size<W3.heap.size;omega) (by simp[Value.ownBlock])).trans hR;have k0:w1.cell? ⟨F,0,none⟩=some (.int .i64 (x.toNat:Int)):=by rw[Lib.cell_of_heap hF1];rfl
        have k1:w1.cell? ⟨F,1,none⟩=some (.int .i64 (kz:Int)):=by rw[Lib.cell_of_heap hF1];rfl
        have k2:w1.cell? ⟨F,2,none⟩=some (.bool pp):=by rw[Lib.cell_of_heap hF1];rfl
        have k3:w1.cell? ⟨F,3,none⟩=some (.int .i64 nsv):=by rw[Lib.cell_of_heap hF1];rfl
        have k4:w1.cell? ⟨F,4,none⟩=some (.int .i64 nrv):=by rw[Lib.cell_of_heap hF1];rfl
        have r0:w1.cell? ⟨w.heap.size,0,none⟩=some (.int .i64 0):=by rw[Lib.cell_of_heap hR1];rfl
        have r1:w1.cell? ⟨w.heap.size,1,none⟩=some (.int .i64 0):=by rw[Lib.cell_of_heap hR1];rfl
        have r2:w1.cell? ⟨w.heap.size,2,none⟩=some (.bool false):=by rw[Lib.cell_of_heap hR1];rfl
        have r3:w1.cell? ⟨w.heap.size,3,none⟩=some (.int .i64 0):=by rw[Lib.cell_of_heap hR1];rfl
        have r4:w1.cell? ⟨w.heap.size,4,none⟩=some (.int .i64 0):=by rw[Lib.cell_of_heap hR1];rfl
        have r5:w1.cell? ⟨w.heap.size,5,none⟩=some (.slice none 0 0):=by rw[Lib.cell_of_heap hR1];rfl
        have rf:∀i,w1.frozen? ⟨w.heap.size,i,none⟩=false:=fun i=>Lib.frozen_of_heap hR1 i
        have hne1:¬w.heap.size=F:=by omega
        have hne2:¬F=w.heap.size:=by omega
        have hb3:Below w.heap.size w w1:=((Xa HBW2).drew).grown hg1 (Xa HBW2).size (fun k hk=>by simp[Value.ownBlock]at hk);have HB3:=hide hb3;have HO1:=hide hown1;clear hb3 hown1 hF1 hR1 hF hR hs4 hg1 hnil1;go_wp2
        refine bodyPost_ret (v:=.tuple #[.agg #[.int .i64 (x.toNat:Int),.int .i64 (kz:Int),.bool pp,.int .i64 nsv,.int .i64 nrv,.slice q1 n cp1],.int .i64 0]) (by simp[results,Tryz.results36,go_sem,r0,r1,r2,r3,r4,r5]) rfl ⟨q1,cp1,?_,?_,?_⟩
        ·simp only[HPP.out,HNS.out,HNR.out,HE3.out,HNN.out]
        ·simp only[HRDL.out,HNN.out];have h:=Xa HO1;simp only[Nat.zero_add,List.nil_append]at h;refine Xw (b1:=W3.heap.size) ?_ (by omega);exact YH (YH (YH (YH (YH (YH (YH h _ (by show F<_;omega) _) _ (by show w.heap.size<_;omega) _) _ (by show w.heap.size<_;omega) _) _ (by show w.heap.size<_;omega) _) _ (by show w.heap.size<_;omega) _) _ (by show w.heap.size<_;omega) _) _ (by show w.heap.size<_;omega) _
        ·exact (((((((Xa HB3).setCell (by show _≤F;omega) _).setCell (by show _≤w.heap.size;omega) _).setCell (by show _≤w.heap.size;omega) _).setCell (by show _≤w.heap.size;omega) _).setCell (by show _≤w.heap.size;omega) _).setCell (by show _≤w.heap.size;omega) _).setCell (by show _≤w.heap.size;omega) _
end Go.Proofs.YtkalonhalhdlaaaGreatDoor
