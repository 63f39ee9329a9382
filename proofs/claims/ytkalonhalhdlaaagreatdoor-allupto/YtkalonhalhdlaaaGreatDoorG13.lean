import Derived.Test.YtkalonhalhdlaaaGreatDoorG12
set_option maxHeartbeats 4000000
set_option maxRecDepth 100000
namespace Go.Proofs.YtkalonhalhdlaaaGreatDoor
open Go.RowKit
theorem Xkh {b ns:Nat}(h:b+2*ns<256):IntKind.i64.wrap ((b:Int)+IntKind.i64.wrap (2*(ns:Int)))=((b+2*ns:Nat):Int):=by
 simp only[IntKind.wrap_i64];omega
theorem Xdq {w:World}{base n:Nat}{v:Value}{xs:List Value}(h:w.ownsRow base 5 1 v n xs)(h0:0<n):∃g cap,v=.slice (some ⟨g,0,none⟩) n cap∧base≤g∧n≤cap:=by
 rcases h.2 with⟨_,h1⟩|⟨g,cap,cur,rfl,h2,_,h3,_⟩
 ·omega
 ·exact ⟨g,cap,rfl,h2,h3⟩
theorem Xif (m k ns nr:Nat)(a:Int)(p:Bool)(q:Option Addr)(l:List UInt8)(c:Nat)(w:World)(ok:Xay m k ns nr)(ha:XL a=true)(hi:Yc m k l.length=true)(hsrc:Qn w q l):
  Calls Tryz.prog 33 #[.int .i64 m,.agg #[.int .i64 a,.int .i64 k,.bool p,.int .i64 ns,.int .i64 nr,.slice q l.length c]] w fun e w'=>∃v,e=.returned (.tuple #[v,.int .i64 0])∧w'.ownsRow w.heap.size 5 1 v (1+cbN m k+l.length) (Lib.byteCells (UInt8.ofNat a.toNat::(Yo m k ns nr p++l)))∧Below w.heap.size w w':=by
 have hb0:∀o,Below w.heap.size w (w.alloc o):=fun o=>(Below.refl _ w).alloc (Nat.le_refl _) o
 have hk:=ok.2.1;have hk9:=ok.2.2.1;have hm:=ok.1;have hn:=Xd1 ok;have h1:=Xdd ok;have c1:=fun w=>JW k w
 have c2:=fun w=>Qs k w
 have c3:=fun w=>Zq m ns (X9 k) w
 have c4:=fun w=>Zq m nr (XJ k) w
 have c5:=fun w=>Xa1 m k l.length w
 have c6:=fun w=>Xbl m k hk9 w
 simp only[Bool.and_eq_true]at hn;rw[hn.1]at c3;rw[hn.2]at c4;rw[hi]at c5
 have hl:l.length≤32:=by
  unfold Yc JE at hi;split at hi
  ·have:=of_decide_eq_true hi;omega
  ·split at hi
   ·have:=eq_of_beq hi;split at this <;> omega
   ·have:=eq_of_beq hi;omega
 clear hn hi
 have hrk:XJ k=decide (k≤4):=by
  by_cases h:k≤4
  ·simp[XJ,h];omega
  ·simp[XJ,h];omega
 generalize X9 k=s at c1 c3;rw[hrk]at c2 c4;clear hrk;obtain⟨x,hx,hwa⟩:∃x:UInt8,UInt8.ofNat a.toNat=x∧IntKind.u8.wrap a=(x.toNat:Int):=⟨_,rfl,XeO ha⟩;have g1:¬((k:Int)<1):=by omega
 have g2:¬((9:Int)<(k:Int)):=by omega
 have ha':a=1∨a=3:=by simpa[XL]using ha
 obtain⟨i0,hi0,hz0,hz1',hz2'⟩:=info_parts infoByte;go_enter Tryz.func33,Tryz.ntmps33
 go_upto_region 1 with fail
 go_cut [29]from 14 (fun s29 wx=>s29=.bool false∧wx=w.alloc (.cells #[.int .i64 a,.int .i64 k,.bool p,.int .i64 ns,.int .i64 nr,.slice q l.length c] 30))
 case first=>
  rcases hm with rfl|rfl
  ·go_wp2
   go_meet
   case rel=>exact⟨rfl,rfl⟩
  ·go_wp2
   go_meet
   case rel=>exact⟨rfl,rfl⟩
 case rest=>
  obtain⟨rfl,rfl⟩:=hcut;go_wp2_with fail
  refine(c1 _).mono ?_;rintro e W1 ⟨rfl,rfl⟩;go_wp2_with fail
  refine(c2 _).mono ?_;rintro e W1 ⟨rfl,rfl⟩;go_wp2_with fail
  refine(c3 _).mono ?_;rintro e W1 ⟨rfl,rfl⟩;go_wp2_with fail
  refine(c4 _).mono ?_;rintro e W1 ⟨rfl,rfl⟩;clear c1 c2 c3 c4;go_upto_region 9 with fail
  go_cut [59]from 14 (fun s59 wx=>s59=.bool false∧wx=w.alloc (.cells #[.int .i64 a,.int .i64 k,.bool p,.int .i64 ns,.int .i64 nr,.slice q l.length c] 30))
  case first=>
   rcases ha' with rfl|rfl
   ·go_wp2
    go_meet
    case rel=>exact⟨rfl,rfl⟩
   ·go_wp2
    go_meet
    case rel=>exact⟨rfl,rfl⟩
  case rest=>
   obtain⟨rfl,rfl⟩:=hcut;go_wp2_with fail
   refine(c5 _).mono ?_;rintro e W1 ⟨rfl,rfl⟩;clear c5;go_upto_if 70 with fail
   go_cut [11]from 14 (fun s11 wx=>s11=.int .i64 (X3 p 1:Nat)∧wx=w.alloc (.cells #[.int .i64 a,.int .i64 k,.bool p,.int .i64 ns,.int .i64 nr,.slice q l.length c] 30))
   case first=>
    cases p
    ·go_wp2
     go_meet
     case rel=>exact⟨rfl,rfl⟩
    ·go_wp2
     go_meet
     case rel=>exact⟨rfl,rfl⟩
   case rest=>
    obtain⟨rfl,hcut⟩:=hcut
    have hH:Held w.heap.size wc a k p ns nr (.slice q l.length c) wc:=by
     rw[hcut];exact⟨by simp,by simp,by simp,by simp,by simp,by simp,Below.refl _ _⟩
    have hW:w.heap.size+1≤wc.heap.size:=by rw[hcut];simp
    have hwW:Below w.heap.size w wc:=by rw[hcut];exact hb0 _
    clear hcut hb0;go_wp2
    go_region_held3 (fun w'=>Held w.heap.size wc a k p ns nr (.slice q l.length c) w') (first|exact Held.drew (by assumption)|exact Held.alloc (by assumption) hW _|exact Held.of (by assumption) (by assumption) (by have h:Held w.heap.size wc a k p ns nr (.slice q l.length c) _:=(by assumption);exact Nat.le_trans hW h.2.2.2.2.2.2.size)) (first|(go_at_call 82;refine(c6 _).mono ?_;rintro e w5 ⟨rfl,hbl⟩))
    rw[Xkh h1];have hb5:Below (w.heap.size+1) wc w5:=(Below.refl _ wc).drew.trans (hbl.mono hW);have hH5:=hH.of hb5 (Nat.le_refl _);have k0:=hH5.1;have k4:=hH5.2.2.2.2.1;have hz5:=hb5.size
    have hnr:nr<128:=by
     by_cases e:k≤4
     ·have:=ok.2.2.2.2.2.1 e;omega
     ·have:=ok.2.2.2.2.2.2 (by omega);omega
    have hbit:=XcD p 1;have HO5:=hide (Xm7 w5 w.heap.size x (by omega));have HAA:=hide (fun o=>(hH5.alloc hW o).2.2.2.2.1);clear c6 hbl hH5;have k4a:=Xa HAA;by_cases hw:wide m k=true
    ·have hcb:cbN m k=2:=by simp[cbN,hw]
     have hmk:m=128∧k≤4:=by simpa[wide]using hw
     have q1:((m:Int)==128)=true:=by simp;omega
     have q2:decide (k≤4)=true:=by simp;omega
     have ctl:Yo m k ns nr p=[UInt8.ofNat (Xv m k+2*ns),UInt8.ofNat (X3 p 1+2*nr)]:=by simp[Yo,hw]
     have e2:Lib.byteCells [x]++[.int .u8 ((Xv m k:Int)+2*(ns:Int)),.int .u8 ((X3 p 1:Int)+2*(nr:Int))]=Lib.byteCells [x,UInt8.ofNat (Xv m k+2*ns),UInt8.ofNat (X3 p 1+2*nr)]:=by
      simp only[Lib.byteCells,List.map_cons,List.map_nil,u8n h1,u8n (show X3 p 1+2*nr<256 by omega)];rfl
     have HE2:=hide e2;have HCTL:=hide ctl;have HCB:=hide hcb;clear e2 ctl hcb;generalize Xv m k=bs at h1 HE2 HCTL;generalize X3 p 1=pb at hbit HE2 HCTL;go_wp2_with (at_builtin;refine wpList_append_own _ rfl _ _ 28 rfl w.heap.size 5 i0 _ 1 1 Tryz.underlying28 hi0 hz0 hz1' hz2' rfl (by decide) _ _ _ rfl ((Xa HO5).alloc _) ⟨w5.heap.size+1,0,none⟩ 2 2 [.int .u8 ((bs:Int)+2*(ns:Int)),.int .u8 ((pb:Int)+2*(nr:Int))] rfl rfl ?a1 ?a2 ?a3 ?a4 ?a5 ?_)
     try case a1=>
      intro j u hj
      match j,hj with
       |0,hj=>simp at hj;subst hj;simp[Addr.add]
       |1,hj=>simp at hj;subst hj;simp[Addr.add]
     try case a2=>intro u hu;simp at hu;first|(rcases hu with rfl|rfl <;> rfl)|(subst hu;rfl)
     try case a3=>unfold maxLen;omega
     try case a4=>omega
     try case a5=>simp;omega
     intro v6 w6 hown6 hg6 _;rw[Xa HE2]at hown6;have hb6:Below (w.heap.size+1) wc w6:=((hb5.alloc (by omega) _).alloc (by simp;omega) _).grown hg6 (by simp;omega) (fun k hk=>by simp[Value.ownBlock]at hk;omega);have hbw6:Below w.heap.size w w6:=hwW.trans (hb6.mono (by omega));have k5:=(hH.of hb6 (Nat.le_refl _)).2.2.2.2.2.1;obtain⟨g6,cap6,rfl,hg61,hnc6⟩:=Xdq hown6 (by omega);have hsrc6:=hsrc.below hbw6 (Nat.le_refl _);have hz6:=hbw6.size;have HO6:=hide hown6;have HBW:=hide hbw6;clear hown6 hg6 hb6 hbw6 HO5 hb5 hH k4a k4 k0;rcases hsrc6 with⟨rfl,rfl⟩|⟨adq,rfl,hsq⟩
     ·go_wp2_with (at_builtin;refine ZM _ rfl _ _ 28 rfl 5 i0 Tryz.underlying28 hi0 g6 _ cap6 c rfl hnc6 rfl ?_)
      go_wp2
      refine bodyPost_ret (v:=.tuple #[.slice (some ⟨g6,0,none⟩) 3 cap6,.int .i64 0]) (by simp[results,Tryz.results33,go_sem]) rfl ⟨_,rfl,?_,Xa HBW⟩;rw[Xa HCB,hx,Xa HCTL];have h:=Xa HO6;simpa using h
     ·go_wp2_with (at_builtin;refine wpList_append_own _ rfl _ _ 28 rfl w.heap.size 5 i0 _ 1 1 Tryz.underlying28 hi0 hz0 hz1' hz2' rfl (by decide) _ _ _ rfl (Xa HO6) adq l.length c (Lib.byteCells l) rfl (by simp[Lib.byteCells]) ?zw1 ?zw2 ?zw3 ?zw4 ?zw5 ?_)
      try case zw1=>exact hsq
      try case zw2=>exact byteCells_one l
      try case zw3=>unfold maxLen;omega
      try case zw4=>omega
      try case zw5=>omega
      intro v7 w7 hown7 hg7 _;have hbw7:Below w.heap.size w w7:=(Xa HBW).grown hg7 hz6 (fun k hk=>by simp[Value.ownBlock]at hk;omega);obtain⟨q7,cp7,rfl⟩:=Q3 hown7;have HO7:=hide hown7;have HB7:=hide hbw7;clear hown7 hg7 hbw7 HO6 HBW;go_wp2
      refine bodyPost_ret (v:=.tuple #[.slice q7 (3+l.length) cp7,.int .i64 0]) (by simp[results,Tryz.results33,go_sem]) rfl ⟨_,rfl,?_,Xa HB7⟩;rw[Xa HCB,hx,Xa HCTL];have h:=Xa HO7;rw[← Lib.byteCells_append]at h;simpa using h
    ·have hcb:cbN m k=1:=by simp[cbN,hw]
     have hlt:=Xd2 ok p hw;have hb16:X3 p 16=16*X3 p 1:=by cases p <;> rfl
     have q12:(((m:Int)==128)&&decide (k≤4))=false:=by
      simp[wide]at hw⊢;omega
     have ctl:Yo m k ns nr p=[UInt8.ofNat (Xv m k+2*ns+X3 p 16+32*nr)]:=by simp[Yo,hw]
     have e0:(((UInt8.ofNat (Xv m k+2*ns+X3 p 16+32*nr)).toNat:Nat):Int)=(Xv m k:Int)+2*(ns:Int)+16*(X3 p 1:Int)+32*(nr:Int):=by rw[u8n hlt];omega
     have e2:Lib.byteCells [x]++[.int .u8 ((Xv m k:Int)+2*(ns:Int)+16*(X3 p 1:Int)+32*(nr:Int))]=Lib.byteCells [x,UInt8.ofNat (Xv m k+2*ns+X3 p 16+32*nr)]:=by
      simp only[Lib.byteCells,List.map_cons,List.map_nil,e0];rfl
     clear e0;rw[hb16]at hlt;have HE2:=hide e2;have HCTL:=hide ctl;have HCB:=hide hcb;clear e2 ctl hcb hb16;generalize Xv m k=bs at h1 HE2 HCTL hlt;generalize X3 p 1=pb at hbit HE2 HCTL hlt;have fin1:m=128∨¬m=128:=by omega
     rcases fin1 with h128|h128
     ·have q1:((m:Int)==128)=true:=by simp;omega
      have q2:decide (k≤4)=false:=by rw[q1]at q12;simpa using q12
      clear h128;go_wp2_with (at_builtin;refine wpList_append_own _ rfl _ _ 28 rfl w.heap.size 5 i0 _ 1 1 Tryz.underlying28 hi0 hz0 hz1' hz2' rfl (by decide) _ _ _ rfl ((Xa HO5).alloc _) ⟨w5.heap.size+1,0,none⟩ 1 1 [.int .u8 ((bs:Int)+2*(ns:Int)+16*(pb:Int)+32*(nr:Int))] rfl rfl ?b1 ?b2 ?b3 ?b4 ?b5 ?_)
      try case b1=>
       intro j u hj
       match j,hj with
        |0,hj=>simp at hj;subst hj;simp[Addr.add]
      try case b2=>intro u hu;simp at hu;first|(rcases hu with rfl|rfl <;> rfl)|(subst hu;rfl)
      try case b3=>unfold maxLen;omega
      try case b4=>omega
      try case b5=>simp;omega
      intro v6 w6 hown6 hg6 _;rw[Xa HE2]at hown6;have hb6:Below (w.heap.size+1) wc w6:=((hb5.alloc (by omega) _).alloc (by simp;omega) _).grown hg6 (by simp;omega) (fun k hk=>by simp[Value.ownBlock]at hk;omega);have hbw6:Below w.heap.size w w6:=hwW.trans (hb6.mono (by omega));have k5:=(hH.of hb6 (Nat.le_refl _)).2.2.2.2.2.1;obtain⟨g6,cap6,rfl,hg61,hnc6⟩:=Xdq hown6 (by omega);have hsrc6:=hsrc.below hbw6 (Nat.le_refl _);have hz6:=hbw6.size;have HO6:=hide hown6;have HBW:=hide hbw6;clear hown6 hg6 hb6 hbw6 HO5 hb5 hH k4a k4 k0;rcases hsrc6 with⟨rfl,rfl⟩|⟨adq,rfl,hsq⟩
      ·go_wp2_with (at_builtin;refine ZM _ rfl _ _ 28 rfl 5 i0 Tryz.underlying28 hi0 g6 _ cap6 c rfl hnc6 rfl ?_)
       go_wp2
       refine bodyPost_ret (v:=.tuple #[.slice (some ⟨g6,0,none⟩) 2 cap6,.int .i64 0]) (by simp[results,Tryz.results33,go_sem]) rfl ⟨_,rfl,?_,Xa HBW⟩;rw[Xa HCB,hx,Xa HCTL];have h:=Xa HO6;simpa using h
      ·go_wp2_with (at_builtin;refine wpList_append_own _ rfl _ _ 28 rfl w.heap.size 5 i0 _ 1 1 Tryz.underlying28 hi0 hz0 hz1' hz2' rfl (by decide) _ _ _ rfl (Xa HO6) adq l.length c (Lib.byteCells l) rfl (by simp[Lib.byteCells]) ?zb1 ?zb2 ?zb3 ?zb4 ?zb5 ?_)
       try case zb1=>exact hsq
       try case zb2=>exact byteCells_one l
       try case zb3=>unfold maxLen;omega
       try case zb4=>omega
       try case zb5=>omega
       intro v7 w7 hown7 hg7 _;have hbw7:Below w.heap.size w w7:=(Xa HBW).grown hg7 hz6 (fun k hk=>by simp[Value.ownBlock]at hk;omega);obtain⟨q7,cp7,rfl⟩:=Q3 hown7;have HO7:=hide hown7;have HB7:=hide hbw7;clear hown7 hg7 hbw7 HO6 HBW;go_wp2
       refine bodyPost_ret (v:=.tuple #[.slice q7 (2+l.length) cp7,.int .i64 0]) (by simp[results,Tryz.results33,go_sem]) rfl ⟨_,rfl,?_,Xa HB7⟩;rw[Xa HCB,hx,Xa HCTL];have h:=Xa HO7;rw[← Lib.byteCells_append]at h;simpa using h
     ·have q1:((m:Int)==128)=false:=by simp;omega
      clear h128;go_wp2_with (at_builtin;refine wpList_append_own _ rfl _ _ 28 rfl w.heap.size 5 i0 _ 1 1 Tryz.underlying28 hi0 hz0 hz1' hz2' rfl (by decide) _ _ _ rfl ((Xa HO5).alloc _) ⟨w5.heap.size+1,0,none⟩ 1 1 [.int .u8 ((bs:Int)+2*(ns:Int)+16*(pb:Int)+32*(nr:Int))] rfl rfl ?d1 ?d2 ?d3 ?d4 ?d5 ?_)
      try case d1=>
       intro j u hj
       match j,hj with
        |0,hj=>simp at hj;subst hj;simp[Addr.add]
      try case d2=>intro u hu;simp at hu;first|(rcases hu with rfl|rfl <;> rfl)|(subst hu;rfl)
      try case d3=>unfold maxLen;omega
      try case d4=>omega
      try case d5=>simp;omega
      intro v6 w6 hown6 hg6 _;rw[Xa HE2]at hown6;have hb6:Below (w.heap.size+1) wc w6:=((hb5.alloc (by omega) _).alloc (by simp;omega) _).grown hg6 (by simp;omega) (fun k hk=>by simp[Value.ownBlock]at hk;omega);have hbw6:Below w.heap.size w w6:=hwW.trans (hb6.mono (by omega));have k5:=(hH.of hb6 (Nat.le_refl _)).2.2.2.2.2.1;obtain⟨g6,cap6,rfl,hg61,hnc6⟩:=Xdq hown6 (by omega);have hsrc6:=hsrc.below hbw6 (Nat.le_refl _);have hz6:=hbw6.size;have HO6:=hide hown6;have HBW:=hide hbw6;clear hown6 hg6 hb6 hbw6 HO5 hb5 hH k4a k4 k0;rcases hsrc6 with⟨rfl,rfl⟩|⟨adq,rfl,hsq⟩
      ·go_wp2_with (at_builtin;refine ZM _ rfl _ _ 28 rfl 5 i0 Tryz.underlying28 hi0 g6 _ cap6 c rfl hnc6 rfl ?_)
       go_wp2
       refine bodyPost_ret (v:=.tuple #[.slice (some ⟨g6,0,none⟩) 2 cap6,.int .i64 0]) (by simp[results,Tryz.results33,go_sem]) rfl ⟨_,rfl,?_,Xa HBW⟩;rw[Xa HCB,hx,Xa HCTL];have h:=Xa HO6;simpa using h
      ·go_wp2_with (at_builtin;refine wpList_append_own _ rfl _ _ 28 rfl w.heap.size 5 i0 _ 1 1 Tryz.underlying28 hi0 hz0 hz1' hz2' rfl (by decide) _ _ _ rfl (Xa HO6) adq l.length c (Lib.byteCells l) rfl (by simp[Lib.byteCells]) ?zd1 ?zd2 ?zd3 ?zd4 ?zd5 ?_)
       try case zd1=>exact hsq
       try case zd2=>exact byteCells_one l
       try case zd3=>unfold maxLen;omega
       try case zd4=>omega
       try case zd5=>omega
       intro v7 w7 hown7 hg7 _;have hbw7:Below w.heap.size w w7:=(Xa HBW).grown hg7 hz6 (fun k hk=>by simp[Value.ownBlock]at hk;omega);obtain⟨q7,cp7,rfl⟩:=Q3 hown7;have HO7:=hide hown7;have HB7:=hide hbw7;clear hown7 hg7 hbw7 HO6 HBW;go_wp2
       refine bodyPost_ret (v:=.tuple #[.slice q7 (2+l.length) cp7,.int .i64 0]) (by simp[results,Tryz.results33,go_sem]) rfl ⟨_,rfl,?_,Xa HB7⟩;rw[Xa HCB,hx,Xa HCTL];have h:=Xa HO7;rw[← Lib.byteCells_append]at h;simpa using h
theorem Xa2 (m:Int)(f:Fr)(q:Option Addr)(c:Nat)(w:World)(hsrc:Qn w q f.info):
  Calls Tryz.prog 33 #[.int .i64 m,frV f q c] w fun e w'=>∃v,e=.returned (.tuple #[v,.int .i64 ((XT m f).1:Nat)])∧w'.ownsRow w.heap.size 5 1 v (XT m f).2.length (Lib.byteCells (XT m f).2)∧((XT m f).1≠0→v=.slice none 0 0)∧Below w.heap.size w w':=by
 unfold frV XT;by_cases h1:(XP m&&Zt f.k&&XX m f.ns (X9 f.k)&&XX m f.nr (XJ f.k))=false
 ·rw[if_pos h1];by_cases h0:(XP m&&Zt f.k)=true
  ·have hn:(XX m f.ns (X9 f.k)&&XX m f.nr (XJ f.k))=false:=by
    rw[h0,Bool.and_assoc,Bool.true_and]at h1;exact h1
   refine(XfK m f.a f.k f.ns f.nr f.p _ w h0 hn).mono ?_;rintro e w' ⟨rfl,hb⟩;exact⟨_,rfl,JD _ _,fun _=>rfl,hb⟩
  ·refine (XfJ m f.a f.k f.ns f.nr f.p _ w (Bool.eq_false_iff.2 h0)).mono ?_;rintro e w' ⟨rfl,hb⟩;exact⟨_,rfl,JD _ _,fun _=>rfl,hb⟩
 ·rw[if_neg h1];have h1':(XP m&&Zt f.k&&(XX m f.ns (X9 f.k)&&XX m f.nr (XJ f.k)))=true:=by rw[← Bool.and_assoc];exact eq_true_of_ne_false h1
  have h0:(XP m&&Zt f.k)=true:=by simp only[Bool.and_eq_true]at h1' ⊢;exact h1'.1
  have hn0:(XX m f.ns (X9 f.k)&&XX m f.nr (XJ f.k))=true:=by simp only[Bool.and_eq_true]at h1' ⊢;exact h1'.2
  by_cases h2:XL f.a=false
  ·rw[if_pos h2];refine(XfI m f.a f.k f.ns f.nr f.p _ w h0 hn0 h2).mono ?_;rintro e w' ⟨rfl,hb⟩;exact⟨_,rfl,JD _ _,fun _=>rfl,hb⟩
  ·rw[if_neg h2];have h2':XL f.a=true:=by simpa using h2
   by_cases h3:Yc m f.k f.info.length=false
   ·rw[if_pos h3];refine(XfL m f.a f.k f.ns f.nr f.p q f.info.length c w h0 hn0 h2' h3).mono ?_;rintro e w' ⟨rfl,hb⟩;exact⟨_,rfl,JD _ _,fun _=>rfl,hb⟩
   ·rw[if_neg h3];have h3':Yc m f.k f.info.length=true:=by simpa using h3
    obtain⟨m',k',ns',nr',em,ek,es,er,ok⟩:=XgP h1';rw[em,ek,es,er];rw[em,ek]at h3';refine(Xif m' k' ns' nr' f.a f.p q f.info c w ok h2' h3' hsrc).mono ?_;rintro e w' ⟨v,rfl,hown,hb⟩;refine⟨v,rfl,?_,fun h=>absurd rfl h,hb⟩;simp only[Int.toNat_natCast]
    have e1:(UInt8.ofNat f.a.toNat::(Yo m' k' ns' nr' f.p++f.info)).length=1+cbN m' k'+f.info.length:=by
     have:(Yo m' k' ns' nr' f.p).length=cbN m' k':=by unfold Yo cbN;split <;> rfl
     simp[this];omega
    rw[e1];exact hown
section
variable {w W:World}{own:Nat→Nat}{i b:Nat}{c:Cfg}{s:St}{cl:Bool}{q cm o ev:Value}{ce oe:List Value}
theorem TAt.pushed (h:TAt w own i b c s cl q cm o ev ce oe){v o':Value}{m:Msg}{w1 w2 w3:World}
  (hb:Below w.heap.size w w1) (hv:w1.ownsRow w.heap.size 5 1 v m.length (Lib.byteCells m))
  (hw2:Below w1.heap.size w1 w2) (hg:w2.grownBy w3 o.ownBlock) (hrow:w3.ownsRow 0 28 1 o' (s.out.length+1) (oe++[v]))
  (hob:o'.ownBlock=o.ownBlock∨∃k,o'.ownBlock=some k∧w2.heap.size≤k):
  TAt (w3.setCell ⟨b,19,none⟩ o') (XZ own w.heap.size w3.heap.size (tg i 3)) i b c {s with out:=s.out++[m]} cl q cm o' ev ce (oe++[v])∧Upd i own (XZ own w.heap.size w3.heap.size (tg i 3)) w (w3.setCell ⟨b,19,none⟩ o'):=by
 have hz1:=hb.size;have hz2:=hw2.size;have hz3:=hg.size;have hb2:Below w.heap.size w w2:=hb.trans (hw2.mono hz1)
 have hob':∀k,o'.ownBlock=some k→own k=tg i 3∨w.heap.size≤k:=by
  intro k hk;rcases hob with e|⟨k2,e,h2⟩
  ·rw[e]at hk;exact .inl (h.lo.rown k hk)
  ·rw[e]at hk;simp at hk;omega
 -- all but the row
 have hK2:Xb (fun k=>some k=o.ownBlock) w w3:=(Xb.of hb2).trans (Xb.grown hg);have hro:∀k,some k=o.ownBlock→own k=tg i 3:=fun k hk=>h.lo.rown k hk.symm
 have hold:∀k,k<w.heap.size→XZ own w.heap.size w3.heap.size (tg i 3) k=own k:=fun k hk=>XR hk
 have hbr:¬some b=o.ownBlock:=fun e=>by have:=hro b e;rw[h.ownb]at this;exact Xz (by omega) (by omega) (.inr (by omega)) this
 have hlt:=h.lt;have hhead3:w3.heap[b]?=some (.cells (Zn c s cl q cm o ev) 137 (0,0)):=by rw[hK2.block b hlt hbr];exact h.head
 have hKb:Xb (· =b) w3 (w3.setCell ⟨b,19,none⟩ o'):=(Xb.refl _ w3).setB _ _;have hK:Xb (fun k=>some k=o.ownBlock∨k=b) w (w3.setCell ⟨b,19,none⟩ o'):=(hK2.mono (fun _ h=>.inl h)).trans (hKb.mono (fun _ h=>.inr h))
 have hne:∀p,p<5→p≠0→p≠3→∀k,(some k=o.ownBlock∨k=b)→own k≠tg i p:=by
  intro p hp h0 h3 k hk;rcases hk with hk|hk
  ·rw[hro k hk];exact Xz (by omega) hp (.inr (by omega))
  ·rw[hk,h.ownb];exact Xz (by omega) hp (.inr (by omega))
 have hb3:b<w3.heap.size:=by omega
 have hvlt:=World.ownsRow.lt hv;refine⟨⟨?_,(hold b hlt).trans h.ownb,h.lq.keeps hK (hne 1 (by omega) (by omega) (by omega)) hold,h.lcm.keeps hK (hne 2 (by omega) (by omega) (by omega)) hold,?_,?_,?_,(hold 0 h.pos).trans h.XC,fun k hk=>ZI (by omega) (by rw[size_setCell]at hk;exact hk),h.cok,h.sok.out _⟩,⟨?_,hold⟩⟩
 ·exact Xm hhead3 o'
 ·refine ⟨?_,?_,?_,h.lo.snoc (fun k hk e=>by rw[h.Xp k (hvlt k hk).1]at e;exact Xq _ _ e.symm)⟩
  ·have:(s.out++[m]).length=s.out.length+1:=by simp
   rw[this];refine Xc hrow hKb (fun k hk e=> ?_);rcases hob' k hk with h1|h1
   ·rw[e,h.ownb]at h1;exact Xz (by omega) (by omega) (.inr (by omega)) h1
   ·omega
  ·intro k hk;rcases hob with e|⟨k2,e,h2⟩
   ·rw[e]at hk;have:=World.ownsRow.lt h.lo.row k hk;rw[XR this.2];exact h.lo.rown k hk
   ·rw[e]at hk;simp at hk;have h4:=(World.ownsRow.lt hrow k2 e).2;exact YJ (by omega) (by omega)
  ·intro j x mm h1 h2;have hl:=h.lo.len;by_cases hj:j<oe.length
   ·rw[List.getElem?_append_left hj]at h1;rw[List.getElem?_append_left (by omega)]at h2;have hx:=h.lo.each j x mm h1 h2;refine⟨Xc hx.1 hK (fun k hk hX=> ?_),fun k hk=>(hold k (World.ownsRow.lt hx.1 k hk).2).trans (hx.2 k hk)⟩;rcases hX with hX|hX
    ·-- a row of lists is no row of bytes
     obtain⟨c1,e1⟩:=Xd h.lo.row hX.symm;obtain⟨c2,e2⟩:=Xd hx.1 hk;rw[e1]at e2;simp at e2
    ·have:=hx.2 k hk;rw[hX,h.ownb]at this;exact Xz (by omega) (by omega) (.inr (by omega)) this
   ·rw[List.getElem?_append_right (by omega)]at h1;rw[List.getElem?_append_right (by omega)]at h2;rw[hl]at h1;obtain⟨jj,hjj⟩:∃jj,j-s.out.length=jj:=⟨_,rfl⟩;rw[hjj]at h1 h2;rcases jj with _|jj
    ·simp at h1 h2;subst h1 h2
     have hv1:w3.ownsRow w.heap.size 5 1 v m.length (Lib.byteCells m):=by
      refine Xc (Xc hv (Xb.of (X:=fun _=>False) hw2) (fun _ _=>id)) (Xb.grown hg) (fun k hk hX=> ?_);have h1:=hvlt k hk;have h2:=World.ownsRow.lt h.lo.row k hX.symm;omega
     refine⟨Xw (Xc hv1 hKb (fun k hk e=> ?_)) (Nat.zero_le _),fun k hk=>YJ (hvlt k hk).1 (World.ownsRow.lt hv1 k hk).2⟩;have h1:=hvlt k hk;omega
    ·simp at h1
 ·exact Xc h.lev hK (fun k hk hX=>hne 4 (by omega) (by omega) (by omega) k hX (h.owne k hk))
 ·exact fun k hk=>(hold k (World.ownsRow.lt h.lev k hk).2).trans (h.owne k hk)
 ·exact hK.mono (fun k hk=>by rcases hk with hk|hk;exact⟨3,by omega,hro k hk⟩;exact⟨0,by omega,by rw[hk];exact h.ownb⟩)
def XgZ (c:Cfg)(cmd:Bool)(f:Fr)(s:St):St:=if cmd then Za c f s else QD c f s
theorem YR (h:TAt w own i b c s cl q cm o ev ce oe)(cmd:Bool)(f:Fr)(fq:Option Addr)(fc:Nat)(hsrc:Qn w fq f.info)(hl:s.out.length≤2199023255552):
  Calls Tryz.prog 103 #[.pointer (some ⟨b,0,none⟩),.bool cmd,frV f fq fc] w fun e w'=>e=.returned (.tuple #[])∧∃own' o' oe',TAt w' own' i b c (XgZ c cmd f s) cl q cm o' ev ce oe'∧Upd i own own' w w':=by
 obtain⟨i1,hi1,hy0,hy1,hy2⟩:=info_parts QC;obtain⟨op,ocap,rfl,ho1,ho2⟩:=h.lo.slice;have c0:=h.c0;have c5:=h.c5;have hlt:=h.lt;have ha:=h.cok.addr;have ha1:c.addr≤3:=by omega
 have hne:¬b=w.heap.size:=by omega
 have H:=hide h;have HSRC:=hide hsrc;clear h hsrc ha;obtain⟨g,hg⟩:∃g:Fr,g={f with a:=if cmd then 4 -(c.addr:Int)else(c.addr:Int)}:=⟨_,rfl⟩;have hput:XgZ c cmd f s=put c g s:=by rw[hg];cases cmd <;> rfl
 have hW:=fun V (hV:Below w.heap.size w V)=>Xa2 (c.m:Int) g fq fc V (by rw[hg];exact(Xa HSRC).below hV (Nat.le_refl _))
 rw[hput];have HW:=hide hW;clear hW hput HSRC;subst hg;unfold frV at HW⊢;dsimp only at HW
 cases cmd
 ·simp only[Bool.false_eq_true,if_false]at HW⊢;go_enter Tryz.func103,Tryz.ntmps103
  go_wp2_with fail
  go_region_with (go_at_call 33;refine(Xa HW _ ?_).mono ?_;(first|exact(Below.refl _ w).alloc (Nat.le_refl _) _|exact((Below.refl _ w).alloc (Nat.le_refl _) _).drew);rintro e w1 ⟨v,rfl,hv,_,hb⟩)
  all_goals
   have hb':Below w.heap.size w w1:=(((Below.refl _ w).alloc (Nat.le_refl _) _).drew).trans (hb.mono (by simp));have hv':=Xw hv (show w.heap.size≤_ by simp);have h1:=(Xa H).later hb';have HB:=hide hb';have HV:=hide hv';obtain⟨vp,vcap,hve⟩:=Yk hv;subst hve;have c19':w1.cell? ⟨b,19,none⟩=some (.slice op s.out.length ocap):=h1.cell 19 rfl;have fz:=h1.fz;have HO:=hide (World.ownsRow.alloc h1.lo.row (.cells #[.slice vp (XT (c.m:Int) {f with a:=(c.addr:Int)}).2.length vcap] 28));have HM1:Hid (s.out.length+1≤maxLen):=hide (by unfold maxLen;omega);have HM2:Hid ((s.out.length+1)*24≤140737488355328):=hide (by omega);clear hb hv hb' hv' h1 c0 c5 HW ho1 ho2;go_wp2_with (at_builtin;refine wpList_append_own_at _ rfl _ _ 38 rfl 0 28 i1 _ 1 24 Tryz.underlying38 hi1 hy0 hy1 hy2 rfl (by decide) _ _ _ rfl (Xa HO) ⟨w1.heap.size,0,none⟩ 1 1 [.slice vp (XT (c.m:Int) {f with a:=(c.addr:Int)}).2.length vcap] rfl rfl (cell_one_new _ _ _) (JK _ _ _) (Xa HM1) (Xa HM2) (Nat.zero_le _) ?_)
   intro o' w3 hrow hg _ hob;obtain⟨p',cap',hoe'⟩:=Yk hrow;subst hoe';have h1:=Xa H;have hb':=Xa HB;have hh:=h1.JH hb' hg (fun k hk e=>Xz (i:=i) (j:=i) (p:=3) (q:=0) (by omega) (by omega) (.inr (by omega)) ((h1.lo.rown k hk).symm.trans e));have hS:=h1.pushed hb' (Xa HV) ((Below.refl _ w1).alloc (Nat.le_refl _) _) hg hrow (by rcases hob with e|e;exact .inl e;exact .inr ⟨_,e,by simp⟩);have HS:=hide hS;have fz3:∀j,w3.frozen? ⟨b,j,none⟩=false:=fun j=>Lib.frozen_of_heap hh j
   have c3:w3.cell? ⟨b,19,none⟩=some (.slice op s.out.length ocap):=by rw[Lib.cell_of_heap hh];rfl
   clear hS hob hrow hg hh hb' h1 fz c19' HO HV HB H;go_wp2
   go_end0
   exact⟨rfl,_,_,_,(Xa HS).1,(Xa HS).2⟩
 ·simp only[if_true]at HW⊢;go_enter Tryz.func103,Tryz.ntmps103
  go_wp2_with fail
  go_region_with (go_at_call 33;refine(Xa HW _ ?_).mono ?_;(first|exact(Below.refl _ w).alloc (Nat.le_refl _) _|exact((Below.refl _ w).alloc (Nat.le_refl _) _).drew);rintro e w1 ⟨v,rfl,hv,_,hb⟩)
  all_goals
   have hb':Below w.heap.size w w1:=(((Below.refl _ w).alloc (Nat.le_refl _) _).drew).trans (hb.mono (by simp));have hv':=Xw hv (show w.heap.size≤_ by simp);have h1:=(Xa H).later hb';have HB:=hide hb';have HV:=hide hv';obtain⟨vp,vcap,hve⟩:=Yk hv;subst hve;have c19':w1.cell? ⟨b,19,none⟩=some (.slice op s.out.length ocap):=h1.cell 19 rfl;have fz:=h1.fz;have HO:=hide (World.ownsRow.alloc h1.lo.row (.cells #[.slice vp (XT (c.m:Int) {f with a:=4 -(c.addr:Int)}).2.length vcap] 28));have HM1:Hid (s.out.length+1≤maxLen):=hide (by unfold maxLen;omega);have HM2:Hid ((s.out.length+1)*24≤140737488355328):=hide (by omega);clear hb hv hb' hv' h1 c0 c5 HW ho1 ho2;go_wp2_with (at_builtin;refine wpList_append_own_at _ rfl _ _ 38 rfl 0 28 i1 _ 1 24 Tryz.underlying38 hi1 hy0 hy1 hy2 rfl (by decide) _ _ _ rfl (Xa HO) ⟨w1.heap.size,0,none⟩ 1 1 [.slice vp (XT (c.m:Int) {f with a:=4 -(c.addr:Int)}).2.length vcap] rfl rfl (cell_one_new _ _ _) (JK _ _ _) (Xa HM1) (Xa HM2) (Nat.zero_le _) ?_)
   intro o' w3 hrow hg _ hob;obtain⟨p',cap',hoe'⟩:=Yk hrow;subst hoe';have h1:=Xa H;have hb':=Xa HB;have hh:=h1.JH hb' hg (fun k hk e=>Xz (i:=i) (j:=i) (p:=3) (q:=0) (by omega) (by omega) (.inr (by omega)) ((h1.lo.rown k hk).symm.trans e));have hS:=h1.pushed hb' (Xa HV) ((Below.refl _ w1).alloc (Nat.le_refl _) _) hg hrow (by rcases hob with e|e;exact .inl e;exact .inr ⟨_,e,by simp⟩);have HS:=hide hS;have fz3:∀j,w3.frozen? ⟨b,j,none⟩=false:=fun j=>Lib.frozen_of_heap hh j
   have c3:w3.cell? ⟨b,19,none⟩=some (.slice op s.out.length ocap):=by rw[Lib.cell_of_heap hh];rfl
   clear hS hob hrow hg hh hb' h1 fz c19' HO HV HB H;go_wp2
   go_end0
   exact⟨rfl,_,_,_,(Xa HS).1,(Xa HS).2⟩
end
end Go.Proofs.YtkalonhalhdlaaaGreatDoor
