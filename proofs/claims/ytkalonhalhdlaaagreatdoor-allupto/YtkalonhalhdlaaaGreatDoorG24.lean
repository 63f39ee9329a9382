import Derived.Test.YtkalonhalhdlaaaGreatDoorSCall3
set_option maxHeartbeats 4000000
set_option maxRecDepth 100000
namespace Go.Proofs
open Go.Shelf
def Tryz.XfB:Go.Shelf.Ren:=⟨fun|4=>98|n=>n,fun|22=>28|4=>4|5=>5|n=>n,fun|n=>n⟩
theorem Tryz.Xe9:Go.Proofs.SlLaysK.n4 Tryz.prog Tryz.XfB:={
 mixed:=by kernel_rfl
 f4:=Tryz.func98.trans (congrArg some (by kernel_rfl))
 t4:=Tryz.underlying4
 a4:=Tryz.isAgg4
 z4:=Tryz.sizeOf4
 v4:=Tryz.zeroValue4
 t22:=Tryz.underlying28
 a22:=Tryz.isAgg28
 z22:=Tryz.sizeOf28
 v22:=Tryz.zeroValue28
 t5:=Tryz.underlying5
 i5:=by kernel_rfl}
end Go.Proofs
namespace Go.Proofs.YtkalonhalhdlaaaGreatDoor
open Go.RowKit
section
variable {w W:World}{own:Nat→Nat}{i b:Nat}{c:Cfg}{s:St}{cl:Bool}{ch:Nat}{q cm o ev:Value}{qe ce oe:List Value}
theorem SAt.Xom (h:SAt w own i b c s cl ch q cm o ev qe ce oe){v q':Value}{m:Msg}{w1 w2 w3:World}
  (hb:Below w.heap.size w w1) (hv:w1.ownsRow w.heap.size 5 1 v m.length (Lib.byteCells m))
  (hw2:Below w1.heap.size w1 w2) (hg:w2.grownBy w3 q.ownBlock) (hrow:w3.ownsRow 0 28 1 q' (s.queue.length+1) (qe++[v]))
  (hob:q'.ownBlock=q.ownBlock∨∃k,q'.ownBlock=some k∧w2.heap.size≤k) (hq20:s.queue.length+1≤20) (hm32:m.length≤32):
  SAt (w3.setCell ⟨b,12,none⟩ q') (XZ own w.heap.size w3.heap.size (tg i 1)) i b c {s with queue:=s.queue++[m]} cl ch q' cm o ev (qe++[v]) ce oe∧Upd i own (XZ own w.heap.size w3.heap.size (tg i 1)) w (w3.setCell ⟨b,12,none⟩ q'):=by
 have hz1:=hb.size;have hz2:=hw2.size;have hz3:=hg.size;have hb2:Below w.heap.size w w2:=hb.trans (hw2.mono hz1)
 have hob':∀k,q'.ownBlock=some k→own k=tg i 1∨w.heap.size≤k:=by
  intro k hk;rcases hob with e|⟨k2,e,h2⟩
  ·rw[e]at hk;exact .inl (h.lq.rown k hk)
  ·rw[e]at hk;simp at hk;omega
 -- all but the row
 have hK2:Xb (fun k=>some k=q.ownBlock) w w3:=(Xb.of hb2).trans (Xb.grown hg);have hro:∀k,some k=q.ownBlock→own k=tg i 1:=fun k hk=>h.lq.rown k hk.symm
 have hold:∀k,k<w.heap.size→XZ own w.heap.size w3.heap.size (tg i 1) k=own k:=fun k hk=>XR hk
 have hbr:¬some b=q.ownBlock:=fun e=>by have:=hro b e;rw[h.ownb]at this;exact Xz (by omega) (by omega) (.inr (by omega)) this
 have hlt:=h.lt;have hhead3:w3.heap[b]?=some (.cells (Zm c s ch q cm o ev) 135 (0,0)):=by rw[hK2.block b hlt hbr];exact h.head
 have hKb:Xb (· =b) w3 (w3.setCell ⟨b,12,none⟩ q'):=(Xb.refl _ w3).setB _ _;have hK:Xb (fun k=>some k=q.ownBlock∨k=b) w (w3.setCell ⟨b,12,none⟩ q'):=(hK2.mono (fun _ h=>.inl h)).trans (hKb.mono (fun _ h=>.inr h))
 have hne:∀p,p<5→p≠0→p≠1→∀k,(some k=q.ownBlock∨k=b)→own k≠tg i p:=by
  intro p hp h0 h3 k hk;rcases hk with hk|hk
  ·rw[hro k hk];exact Xz (by omega) hp (.inr (by omega))
  ·rw[hk,h.ownb];exact Xz (by omega) hp (.inr (by omega))
 have hlc:=(Array.getElem?_eq_some_iff.1 h.chan).1;have hcb:ch≠b:=fun e=>by have:=h.head;rw[← e,h.chan]at this;simp at this
 have hco:¬some ch=q.ownBlock:=fun e=>by have:=hro ch e;rw[h.ownc]at this;exact Xz (by omega) (by omega) (.inr (by omega)) this
 have hb3:b<w3.heap.size:=by omega
 have hvlt:=World.ownsRow.lt hv;refine⟨⟨?_,(hold b hlt).trans h.ownb,?_,(hold ch hlc).trans h.ownc,?_,h.lcm.keeps hK (hne 2 (by omega) (by omega) (by omega)) hold,h.lo.keeps hK (hne 3 (by omega) (by omega) (by omega)) hold,?_,?_,?_,(hold 0 h.pos).trans h.XC,fun k hk=>ZI (by omega) (by rw[size_setCell]at hk;exact hk),h.cok,⟨h.sok.state,h.sok.vs,h.sok.va,h.sok.vr,h.sok.vm,by show(s.queue++[m]).length≤20;rw[List.length_append];exact hq20,fun x hx=>by rcases List.mem_append.1 hx with hx|hx;exact h.sok.q32 x hx;simp at hx;subst hx;exact hm32,h.sok.timer,h.sok.tries,h.sok.came⟩⟩,⟨?_,hold⟩⟩
 ·exact Xm hhead3 q'
 ·rw[hK.block ch hlc (fun hx=>by rcases hx with hx|hx;exact hco hx;exact hcb hx)];exact h.chan
 ·refine ⟨?_,?_,?_,h.lq.snoc (fun k hk e=>by rw[h.Xp k (hvlt k hk).1]at e;exact Xq _ _ e.symm)⟩
  ·have:(s.queue++[m]).length=s.queue.length+1:=by simp
   rw[this];refine Xc hrow hKb (fun k hk e=> ?_);rcases hob' k hk with h1|h1
   ·rw[e,h.ownb]at h1;exact Xz (by omega) (by omega) (.inr (by omega)) h1
   ·omega
  ·intro k hk;rcases hob with e|⟨k2,e,h2⟩
   ·rw[e]at hk;have:=World.ownsRow.lt h.lq.row k hk;rw[XR this.2];exact h.lq.rown k hk
   ·rw[e]at hk;simp at hk;have h4:=(World.ownsRow.lt hrow k2 e).2;exact YJ (by omega) (by omega)
  ·intro j x mm h1 h2;have hl:=h.lq.len;by_cases hj:j<qe.length
   ·rw[List.getElem?_append_left hj]at h1;rw[List.getElem?_append_left (by omega)]at h2;have hx:=h.lq.each j x mm h1 h2;refine⟨Xc hx.1 hK (fun k hk hX=> ?_),fun k hk=>(hold k (World.ownsRow.lt hx.1 k hk).2).trans (hx.2 k hk)⟩;rcases hX with hX|hX
    ·-- a row of lists is no row of bytes
     obtain⟨c1,e1⟩:=Xd h.lq.row hX.symm;obtain⟨c2,e2⟩:=Xd hx.1 hk;rw[e1]at e2;simp at e2
    ·have:=hx.2 k hk;rw[hX,h.ownb]at this;exact Xz (by omega) (by omega) (.inr (by omega)) this
   ·rw[List.getElem?_append_right (by omega)]at h1;rw[List.getElem?_append_right (by omega)]at h2;rw[hl]at h1;obtain⟨jj,hjj⟩:∃jj,j-s.queue.length=jj:=⟨_,rfl⟩;rw[hjj]at h1 h2;rcases jj with _|jj
    ·simp at h1 h2;subst h1 h2
     have hv1:w3.ownsRow w.heap.size 5 1 v m.length (Lib.byteCells m):=by
      refine Xc (Xc hv (Xb.of (X:=fun _=>False) hw2) (fun _ _=>id)) (Xb.grown hg) (fun k hk hX=> ?_);have h1:=hvlt k hk;have h2:=World.ownsRow.lt h.lq.row k hX.symm;omega
     refine⟨Xw (Xc hv1 hKb (fun k hk e=> ?_)) (Nat.zero_le _),fun k hk=>YJ (hvlt k hk).1 (World.ownsRow.lt hv1 k hk).2⟩;have h1:=hvlt k hk;omega
    ·simp at h1
 ·exact Xc h.lev hK (fun k hk hX=>hne 4 (by omega) (by omega) (by omega) k hX (h.owne k hk))
 ·exact fun k hk=>(hold k (World.ownsRow.lt h.lev k hk).2).trans (h.owne k hk)
 ·refine h.ctl.keeps hK h.pos (fun hx=> ?_);rcases hx with hx|hx
  ·have:=hro 0 hx;rw[h.XC]at this;exact Xq _ _ this.symm
  ·have:=h.ownb;rw[← hx,h.XC]at this;exact Xq _ _ this.symm
 ·exact hK.mono (fun k hk=>by rcases hk with hk|hk;exact⟨1,by omega,hro k hk⟩;exact⟨0,by omega,by rw[hk];exact h.ownb⟩)
theorem clone_any (q:Option Addr)(n:Nat)(l:List UInt8)(w:World)(hs:XU w q l)(hl:l.length≤140737488355328):
  Calls Tryz.prog 98 #[.slice q l.length n] w fun e w'=>∃v,e=.returned v∧w'.ownsRow w.heap.size 5 1 v l.length (Lib.byteCells l)∧Below w.heap.size w w':=by
 rcases hs with⟨rfl,rfl⟩|⟨g,off,rfl,_,hseg⟩
 ·refine (Any.bytes_Clone_nil Tryz.Xe9 _ n w).mono ?_;rintro e w' ⟨rfl,rfl⟩;exact⟨_,rfl,World.ownsRow_nil _ _ _ _,Below.refl _ _⟩
 ·refine (Any.bytes_Clone_at Tryz.Xe9 ⟨g,off,none⟩ l.length n (l.map fun x=>(x.toNat:Int)) w (by simp) hl (fun j hj=> ?_)).mono ?_
  ·have:=hseg j hj;rw[Go.WideShapes.add_plain,this];simp[List.getD,hj]
  ·rintro e w' ⟨v,rfl,h1,_,h2⟩;refine⟨v,rfl,?_,h2⟩;have e2:(l.map fun x=>(x.toNat:Int)).map (Value.int .u8)=Lib.byteCells l:=by simp[Lib.byteCells]
   rw[← e2];exact h1
theorem XlC (h:SAt w own i b c s cl ch q cm o ev qe ce oe)(p:Option Addr)(cp:Nat)(l:List UInt8)(hsrc:XU w p l)(hll:l.length≤1099511627776)(hl:s.out.length+18≤2199023255552):
  Calls Tryz.prog 55 #[.pointer (some ⟨b,0,none⟩),.slice p l.length cp] w fun e w'=>Ans (if cl then 8 else(Qa c l s).1) i b c (if cl then s else(Qa c l s).2) cl own w e w':=by
 have hlt:=h.lt;have k1:=YE h;cases cl with
 |true=>
  have H:=hide h;clear h;go_enter Tryz.func55,Tryz.ntmps55
  go_wp2_with fail
  refine k1.mono ?_;rintro e w1 ⟨rfl,hw1⟩;subst hw1;clear k1;go_wp2
  go_ret
  exact(Xa H).ans 8 (Below.refl _ _)
 |false=>
  have c7:=h.Qp;have c12:=h.c_q;have fz:=h.fz;have hs4:=h.sok.state;have hq20:=h.sok.q20;obtain⟨qp,qcap,rfl,_,_⟩:=h.lq.slice;have hdef:Qa c l s=if s.state≠2 then(6,s)else if 32<l.length then(1,s)else if 20≤s.queue.length then(7,s)else(0,pump c {s with queue:=s.queue++[l]}):=rfl
  by_cases h2:s.state=2
  ·have hd1:=hdef.trans (if_neg (by simpa using h2));rw[h2]at c7;by_cases h32:32<l.length
   ·have HD:=hide (hd1.trans (if_pos h32));have H:=hide h;clear h hdef hd1 h2;go_enter Tryz.func55,Tryz.ntmps55
    go_wp2_with fail
    refine k1.mono ?_;rintro e w1 ⟨rfl,hw1⟩;subst hw1;clear k1;go_wp2
    go_ret
    dsimp only
    rw[Xa HD];exact(Xa H).ans 1 (Below.refl _ _)
   ·have hd2:=hd1.trans (if_neg h32);by_cases h20:20≤s.queue.length
    ·have HD:=hide (hd2.trans (if_pos h20));have H:=hide h;clear h hdef hd1 hd2 h2;go_enter Tryz.func55,Tryz.ntmps55
     go_wp2_with fail
     refine k1.mono ?_;rintro e w1 ⟨rfl,hw1⟩;subst hw1;clear k1;go_wp2
     go_ret
     dsimp only
     rw[Xa HD];exact(Xa H).ans 7 (Below.refl _ _)
    ·have HD:=hide (hd2.trans (if_neg h20));obtain⟨i1,hi1,hy0,hy1,hy2⟩:=info_parts QC;have K2:=hide (fun V (hV:Below w.heap.size w V)=>clone_any p cp l V (hsrc.below hV (Nat.le_refl _)) (by omega));have HM1:Hid (s.queue.length+1≤maxLen):=hide (by unfold maxLen;omega);have HM2:Hid ((s.queue.length+1)*24≤140737488355328):=hide (by omega);have H:=hide h;clear h hdef hd1 hd2 h2 hsrc;go_enter Tryz.func55,Tryz.ntmps55
     go_wp2_with fail
     refine k1.mono ?_;rintro e w1 ⟨rfl,hw1⟩;subst hw1;clear k1;go_wp2_with fail
     go_region_law (first|(refine Q5 _ (by rfl) _ _ 38 (by rfl) 0 28 i1 _ 1 24 Tryz.underlying38 hi1 hy0 hy1 hy2 rfl (by decide) _ _ _ (by rfl) (Xa HO) ⟨w2.heap.size,0,none⟩ 1 1 [.slice vp l.length vcap] (by rfl) (by rfl) (cell_one_new _ _ _) (JK _ _ _) (Xa HM1) (Xa HM2) (Nat.zero_le _) ?_;intro q5 w5 hrow5 hg5 hob5;obtain⟨p5,cap5,hs5⟩:=Yk hrow5;subst hs5;have hbl5:=(Below.refl w2.heap.size w2).alloc (o:=.cells #[.slice vp l.length vcap] 28) (Nat.le_refl _);have hh5:=(Xa H2).XaE hbl5 hg5 (fun k hk e=>Xz (i:=i) (j:=i) (p:=1) (q:=0) (by omega) (by omega) (.inr (by omega)) (((Xa H2).lq.rown k hk).symm.trans e));have fz5:∀j,w5.frozen? ⟨b,j,none⟩=false:=(fun j=>Lib.frozen_of_heap hh5 j);have e12:w5.cell? ⟨b,12,none⟩=some (.slice qp s.queue.length qcap):=(by rw[Lib.cell_of_heap hh5];rfl))|(go_simp;go_at_call 98;refine(Xa K2 _ ?_).mono ?_;(first|exact Below.refl _ _|exact(Below.refl _ w1).drew);rintro e w2 ⟨v,rfl,hv,hb⟩;obtain⟨vp,vcap,hve⟩:=Yk hv;subst hve;have hb':Below w1.heap.size w1 w2:=(by first|exact hb|exact((Below.refl _ w1).drew).trans hb);have h2:=(Xa H).later hb';have d12:=h2.c_q;have fz2:=h2.fz;have hlt2:=h2.lt;have HO:=hide (World.ownsRow.alloc h2.lq.row (.cells #[.slice vp l.length vcap] 28));have H2:=hide h2;have HV:=hide hv;have HB:=hide hb';clear h2 hv hb hb'))
     all_goals
      have hS:=(Xa H).Xom (Xa HB) (Xa HV) hbl5 hg5 hrow5 (by rcases hob5 with e|e;exact .inl e;exact .inr ⟨_,e,Nat.le_refl _⟩) (by omega) (by omega);have K7:=hide (XaZ hS.1 (by show s.out.length+16≤_;omega));have U7:=hide hS.2;clear hS hh5 hg5 hrow5 hob5 hbl5 H2 HV HO HB;go_wp2_with fail
      refine(Xa K7).mono ?_;rintro e w8 ⟨rfl,own8,h8,u8⟩;have HR:=hide (And.intro h8 ((Xa U7).trans u8));clear K7 U7 h8 u8;go_wp2
      go_ret
      dsimp only
      rw[Xa HD];exact⟨rfl,_,(Xa HR).1,(Xa HR).2⟩
  ·have HD:=hide (hdef.trans (if_pos h2));have t2:((s.state:Int)==2)=false:=by simp;omega
   have t3:((s.state:Int) != 2)=true:=by simp;omega
   have H:=hide h;clear h hdef h2;go_enter Tryz.func55,Tryz.ntmps55
   go_wp2_with fail
   refine k1.mono ?_;rintro e w1 ⟨rfl,hw1⟩;subst hw1;clear k1;go_wp2
   go_ret
   dsimp only
   rw[Xa HD];exact(Xa H).ans 6 (Below.refl _ _)
end
def QA (n most:Int):Bool:=decide (1≤n)&&decide (n≤most)
def Qi (m win tim tri room addr:Int):Bool:=XP m&&(QA win 15&&(decide (win<m)&&(QA tim 100&&(QA tri 10&&(QA room 16&&XL addr)))))
theorem Xak (n most:Int)(w:World):Calls Tryz.prog 118 #[.int .i64 n,.int .i64 most] w fun e w'=>e=.returned (.bool (QA n most))∧w'=w:=by
 by_cases h1:1≤n
 ·by_cases h2:n≤most
  ·go_enter Tryz.func118,Tryz.ntmps118
   go_wp2
   go_ret
   exact⟨Xr (by simp[QA,h1,h2]),rfl⟩
  ·go_enter Tryz.func118,Tryz.ntmps118
   go_wp2
   go_ret
   exact⟨Xr (by simp[QA,h1,h2]),rfl⟩
 ·go_enter Tryz.func118,Tryz.ntmps118
  go_wp2
  go_ret
  exact⟨Xr (by simp[QA];omega),rfl⟩
theorem Xbq (m win tim tri room addr:Int)(w:World):
  Calls Tryz.prog 87 #[.agg #[.int .i64 m,.int .i64 win,.int .i64 tim,.int .i64 tri,.int .i64 room,.int .i64 addr]] w fun e w'=>e=.returned (.bool (Qi m win tim tri room addr))∧Below w.heap.size w w':=by
 have k1:=fun V=>Y8 m V
 have k2:=fun V=>Xak win 15 V
 have k3:=fun V=>Xak tim 100 V
 have k4:=fun V=>Xak tri 10 V
 have k5:=fun V=>Xak room 16 V
 have k6:=fun V=>ZG addr V
 have hdef:Qi m win tim tri room addr=(XP m&&(QA win 15&&(decide (win<m)&&(QA tim 100&&(QA tri 10&&(QA room 16&&XL addr)))))):=rfl;generalize XP m=x1 at*;generalize QA win 15=x2 at*;generalize QA tim 100=x3 at*;generalize QA tri 10=x4 at*;generalize QA room 16=x5 at*;generalize XL addr=x6 at*;have HD:=hide hdef;clear hdef;cases x1 with
 |false=>
  have HD2:Hid (Qi m win tim tri room addr=false):=hide ((Xa HD).trans (by simp));clear HD;go_enter Tryz.func87,Tryz.ntmps87
  go_wp2_with (first|(go_at_call 71;refine(k1 _).mono ?_;rintro e w' ⟨rfl,rfl⟩)|(go_at_call 74;refine(k6 _).mono ?_;rintro e w' ⟨rfl,rfl⟩)|(go_at_call_of 118 (win);refine(k2 _).mono ?_;rintro e w' ⟨rfl,rfl⟩)|(go_at_call_of 118 (tim);refine(k3 _).mono ?_;rintro e w' ⟨rfl,rfl⟩)|(go_at_call_of 118 (tri);refine(k4 _).mono ?_;rintro e w' ⟨rfl,rfl⟩)|(go_at_call_of 118 (room);refine(k5 _).mono ?_;rintro e w' ⟨rfl,rfl⟩))
  go_ret
  exact⟨Xr (Xa HD2).symm,(Below.refl _ w).alloc (Nat.le_refl _) _⟩
 |true=>
  cases x2 with
  |false=>
   have HD2:Hid (Qi m win tim tri room addr=false):=hide ((Xa HD).trans (by simp));clear HD;go_enter Tryz.func87,Tryz.ntmps87
   go_wp2_with (first|(go_at_call 71;refine(k1 _).mono ?_;rintro e w' ⟨rfl,rfl⟩)|(go_at_call 74;refine(k6 _).mono ?_;rintro e w' ⟨rfl,rfl⟩)|(go_at_call_of 118 (win);refine(k2 _).mono ?_;rintro e w' ⟨rfl,rfl⟩)|(go_at_call_of 118 (tim);refine(k3 _).mono ?_;rintro e w' ⟨rfl,rfl⟩)|(go_at_call_of 118 (tri);refine(k4 _).mono ?_;rintro e w' ⟨rfl,rfl⟩)|(go_at_call_of 118 (room);refine(k5 _).mono ?_;rintro e w' ⟨rfl,rfl⟩))
   go_ret
   exact⟨Xr (Xa HD2).symm,(Below.refl _ w).alloc (Nat.le_refl _) _⟩
  |true=>
   by_cases hwm:win<m
   ·skip
    cases x3 with
    |false=>
     have HD2:Hid (Qi m win tim tri room addr=false):=hide ((Xa HD).trans (by simp[hwm]));clear HD;go_enter Tryz.func87,Tryz.ntmps87
     go_wp2_with (first|(go_at_call 71;refine(k1 _).mono ?_;rintro e w' ⟨rfl,rfl⟩)|(go_at_call 74;refine(k6 _).mono ?_;rintro e w' ⟨rfl,rfl⟩)|(go_at_call_of 118 (win);refine(k2 _).mono ?_;rintro e w' ⟨rfl,rfl⟩)|(go_at_call_of 118 (tim);refine(k3 _).mono ?_;rintro e w' ⟨rfl,rfl⟩)|(go_at_call_of 118 (tri);refine(k4 _).mono ?_;rintro e w' ⟨rfl,rfl⟩)|(go_at_call_of 118 (room);refine(k5 _).mono ?_;rintro e w' ⟨rfl,rfl⟩))
     go_ret
     exact⟨Xr (Xa HD2).symm,(Below.refl _ w).alloc (Nat.le_refl _) _⟩
    |true=>
     cases x4 with
     |false=>
      have HD2:Hid (Qi m win tim tri room addr=false):=hide ((Xa HD).trans (by simp[hwm]));clear HD;go_enter Tryz.func87,Tryz.ntmps87
      go_wp2_with (first|(go_at_call 71;refine(k1 _).mono ?_;rintro e w' ⟨rfl,rfl⟩)|(go_at_call 74;refine(k6 _).mono ?_;rintro e w' ⟨rfl,rfl⟩)|(go_at_call_of 118 (win);refine(k2 _).mono ?_;rintro e w' ⟨rfl,rfl⟩)|(go_at_call_of 118 (tim);refine(k3 _).mono ?_;rintro e w' ⟨rfl,rfl⟩)|(go_at_call_of 118 (tri);refine(k4 _).mono ?_;rintro e w' ⟨rfl,rfl⟩)|(go_at_call_of 118 (room);refine(k5 _).mono ?_;rintro e w' ⟨rfl,rfl⟩))
      go_ret
      exact⟨Xr (Xa HD2).symm,(Below.refl _ w).alloc (Nat.le_refl _) _⟩
     |true=>
      cases x5 with
      |false=>
       have HD2:Hid (Qi m win tim tri room addr=false):=hide ((Xa HD).trans (by simp[hwm]));clear HD;go_enter Tryz.func87,Tryz.ntmps87
       go_wp2_with (first|(go_at_call 71;refine(k1 _).mono ?_;rintro e w' ⟨rfl,rfl⟩)|(go_at_call 74;refine(k6 _).mono ?_;rintro e w' ⟨rfl,rfl⟩)|(go_at_call_of 118 (win);refine(k2 _).mono ?_;rintro e w' ⟨rfl,rfl⟩)|(go_at_call_of 118 (tim);refine(k3 _).mono ?_;rintro e w' ⟨rfl,rfl⟩)|(go_at_call_of 118 (tri);refine(k4 _).mono ?_;rintro e w' ⟨rfl,rfl⟩)|(go_at_call_of 118 (room);refine(k5 _).mono ?_;rintro e w' ⟨rfl,rfl⟩))
       go_ret
       exact⟨Xr (Xa HD2).symm,(Below.refl _ w).alloc (Nat.le_refl _) _⟩
      |true=>
       cases x6 with
       |false=>
        have HD2:Hid (Qi m win tim tri room addr=false):=hide ((Xa HD).trans (by simp[hwm]));clear HD;go_enter Tryz.func87,Tryz.ntmps87
        go_wp2_with (first|(go_at_call 71;refine(k1 _).mono ?_;rintro e w' ⟨rfl,rfl⟩)|(go_at_call 74;refine(k6 _).mono ?_;rintro e w' ⟨rfl,rfl⟩)|(go_at_call_of 118 (win);refine(k2 _).mono ?_;rintro e w' ⟨rfl,rfl⟩)|(go_at_call_of 118 (tim);refine(k3 _).mono ?_;rintro e w' ⟨rfl,rfl⟩)|(go_at_call_of 118 (tri);refine(k4 _).mono ?_;rintro e w' ⟨rfl,rfl⟩)|(go_at_call_of 118 (room);refine(k5 _).mono ?_;rintro e w' ⟨rfl,rfl⟩))
        go_ret
        exact⟨Xr (Xa HD2).symm,(Below.refl _ w).alloc (Nat.le_refl _) _⟩
       |true=>
        have HD2:Hid (Qi m win tim tri room addr=true):=hide ((Xa HD).trans (by simp[hwm]));clear HD;go_enter Tryz.func87,Tryz.ntmps87
        go_wp2_with (first|(go_at_call 71;refine(k1 _).mono ?_;rintro e w' ⟨rfl,rfl⟩)|(go_at_call 74;refine(k6 _).mono ?_;rintro e w' ⟨rfl,rfl⟩)|(go_at_call_of 118 (win);refine(k2 _).mono ?_;rintro e w' ⟨rfl,rfl⟩)|(go_at_call_of 118 (tim);refine(k3 _).mono ?_;rintro e w' ⟨rfl,rfl⟩)|(go_at_call_of 118 (tri);refine(k4 _).mono ?_;rintro e w' ⟨rfl,rfl⟩)|(go_at_call_of 118 (room);refine(k5 _).mono ?_;rintro e w' ⟨rfl,rfl⟩))
        go_ret
        exact⟨Xr (Xa HD2).symm,(Below.refl _ w).alloc (Nat.le_refl _) _⟩
   ·skip
    have HD2:Hid (Qi m win tim tri room addr=false):=hide ((Xa HD).trans (by simp[hwm]));clear HD;go_enter Tryz.func87,Tryz.ntmps87
    go_wp2_with (first|(go_at_call 71;refine(k1 _).mono ?_;rintro e w' ⟨rfl,rfl⟩)|(go_at_call 74;refine(k6 _).mono ?_;rintro e w' ⟨rfl,rfl⟩)|(go_at_call_of 118 (win);refine(k2 _).mono ?_;rintro e w' ⟨rfl,rfl⟩)|(go_at_call_of 118 (tim);refine(k3 _).mono ?_;rintro e w' ⟨rfl,rfl⟩)|(go_at_call_of 118 (tri);refine(k4 _).mono ?_;rintro e w' ⟨rfl,rfl⟩)|(go_at_call_of 118 (room);refine(k5 _).mono ?_;rintro e w' ⟨rfl,rfl⟩))
    go_ret
    exact⟨Xr (Xa HD2).symm,(Below.refl _ w).alloc (Nat.le_refl _) _⟩
end Go.Proofs.YtkalonhalhdlaaaGreatDoor
namespace Go.Proofs.YtkalonhalhdlaaaGreatDoor
open Go.Conc Go.RowKit
theorem XoQ (w:World):(Instr.makeChan 131 (.int .i64 0)).run Tryz.prog w=.ok (.chan (some w.heap.size)) (w.alloc (.chan 0 #[] false 0 0 false)):=by
 have h:(Tryz.prog.info? 154).map (·.bytes)=some 0:=by kernel_rfl
 obtain⟨i,hi,hb⟩:=Option.map_eq_some_iff.1 h;simpa using run_makeChan (P:=Tryz.prog) (w:=w) Tryz.underlying131 hi .i64 0 (by omega) (by rw[hb];omega)
theorem XoT (m win tim tri room addr:Int)(w:World)(hb:Qi m win tim tri room addr=false):
  Calls Tryz.prog 38 #[.agg #[.int .i64 m,.int .i64 win,.int .i64 tim,.int .i64 tri,.int .i64 room,.int .i64 addr]] w fun e w'=>e=.returned (.tuple #[.pointer none,.int .i64 (1:Nat)])∧Below w.heap.size w w':=by
 have k1:=fun V=>Xbq m win tim tri room addr V
 rw[hb]at k1;clear hb;go_enter Tryz.func38,Tryz.ntmps38
 go_wp2_with fail
 refine(k1 _).mono ?_;rintro e w1 ⟨rfl,hb⟩;clear k1;have HB:=hide (((Below.refl _ w).alloc (Nat.le_refl _) _).trans (hb.mono (by simp)));clear hb;go_wp2
 go_ret2
 exact⟨rfl,Xa HB⟩
theorem XmG (c:Cfg)(hc:c.ok)(i:Nat)(own:Nat→Nat)(w w1:World)(h0:own 0=0)(hC:Ctl w)(hs:0<w.heap.size)(hb:Below w.heap.size w w1):
  Below w.heap.size w ((w1.alloc (.chan 0 #[] false 0 0 false)).alloc (.cells (Zm c St.fresh w1.heap.size (.slice none 0 0) (.slice none 0 0) (.slice none 0 0) (.slice none 0 0)) 135)).drew∧
  Stn ((w1.alloc (.chan 0 #[] false 0 0 false)).alloc (.cells (Zm c St.fresh w1.heap.size (.slice none 0 0) (.slice none 0 0) (.slice none 0 0) (.slice none 0 0)) 135)).drew (XZ own w.heap.size ((w1.alloc (.chan 0 #[] false 0 0 false)).alloc (.cells (Zm c St.fresh w1.heap.size (.slice none 0 0) (.slice none 0 0) (.slice none 0 0) (.slice none 0 0)) 135)).drew.heap.size (tg i 0)) i (w1.heap.size+1) c St.fresh false:=by
 have hz:=hb.size;have hsz:((w1.alloc (.chan 0 #[] false 0 0 false)).alloc (.cells (Zm c St.fresh w1.heap.size (.slice none 0 0) (.slice none 0 0) (.slice none 0 0) (.slice none 0 0)) 135)).drew.heap.size=w1.heap.size+2:=Xc7 _ _ _
 have hbl:Below w.heap.size w ((w1.alloc (.chan 0 #[] false 0 0 false)).alloc (.cells (Zm c St.fresh w1.heap.size (.slice none 0 0) (.slice none 0 0) (.slice none 0 0) (.slice none 0 0)) 135)).drew:=
  (((hb.alloc (by omega) _).alloc (by rw[Xk];omega) _)).drew
 refine⟨hbl,w1.heap.size,_,_,_,_,[],[],[],?_,?_,?_,?_,Lst.nil _ _ _,Lst.nil _ _ _,Lst.nil _ _ _,World.ownsRow_nil _ _ _ _,fun k hk=>by simp[Value.ownBlock]at hk,hC.below hbl hs,?_,?_,hc,(Xbn hc).fit⟩
 ·have:=Xg (w1.alloc (.chan 0 #[] false 0 0 false)) (.cells (Zm c St.fresh w1.heap.size (.slice none 0 0) (.slice none 0 0) (.slice none 0 0) (.slice none 0 0)) 135);rw[Xk]at this;exact this
 ·rw[hsz];exact YJ (by omega) (by omega)
 ·show ((w1.alloc _).alloc _).heap[w1.heap.size]?=_
  rw[Below.heap_alloc _ _ _ (by rw[Xk];omega)];exact Xg w1 _
 ·rw[hsz];exact YJ (by omega) (by omega)
 ·rw[XR hs];exact h0
 ·intro k hk;rw[hsz]at hk⊢;exact ZI (by omega) hk
theorem Xog (c:Cfg)(hc:c.ok)(i:Nat)(own:Nat→Nat)(w:World)(h0:own 0=0)(hC:Ctl w)(hs:0<w.heap.size):
  Calls Tryz.prog 38 #[.agg #[.int .i64 c.m,.int .i64 c.win,.int .i64 c.tim,.int .i64 c.tri,.int .i64 c.room,.int .i64 c.addr]] w fun e w'=>∃b,e=.returned (.tuple #[.pointer (some ⟨b,0,none⟩),.int .i64 (0:Nat)])∧w.heap.size≤b∧Below w.heap.size w w'∧Stn w' (XZ own w.heap.size w'.heap.size (tg i 0)) i b c St.fresh false:=by
 have k1:=fun V=>Xbq c.m c.win c.tim c.tri c.room c.addr V
 have hb:Qi c.m c.win c.tim c.tri c.room c.addr=true:=by
  have e1:XP c.m=true:=by have:=hc.m;simp[XP];omega
  have e2:XL c.addr=true:=by have:=hc.addr;simp[XL];omega
  have:=hc.win1;have:=hc.win15;have:=hc.winm;have:=hc.tim1;have:=hc.tim100;have:=hc.tri1;have:=hc.tri10;have:=hc.room1;have:=hc.room16;simp[Qi,QA,e1,e2];omega
 rw[hb]at k1;clear hb;have hmk:=XoQ;go_enter Tryz.func38,Tryz.ntmps38
 go_wp2_with fail
 refine(k1 _).mono ?_;rintro e w1 ⟨rfl,hb⟩;obtain⟨y0,y1,y2,y3,y4,y5⟩:=Xt (Xc9 hb);have HB:=hide (((Below.refl _ w).alloc (Nat.le_refl _) _).trans (hb.mono (by simp)));have hlt:w.heap.size<w1.heap.size:=by have:=hb.size;simp at this;omega
 clear hb k1;go_wp2
 go_region
 all_goals go_wp2
 all_goals go_ret2
 all_goals exact⟨w1.heap.size+1,rfl,by omega,XmG c hc i own w w1 h0 hC hs (Xa HB)⟩
end Go.Proofs.YtkalonhalhdlaaaGreatDoor
