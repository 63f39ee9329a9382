import Derived.Test.YtkalonhalhdlaaaGreatDoorG06
set_option maxHeartbeats 4000000
set_option maxRecDepth 1000000
namespace Go.Proofs.YtkalonhalhdlaaaGreatDoor
open Go.RowKit
def IOk (s:IH):Prop:=s.c≤7∧(s.on=false→s.has=[])∧(s.c=7→s.on=false)
theorem XmK (s:IH)(b:Bool)(h:IOk s):IOk (Ya s b).1:=by
 obtain⟨h1,h2,h3⟩:=h;obtain⟨on,c,has⟩:=s;simp only at h1 h2 h3;unfold Ya IOk;cases b
 ·by_cases e6:c=6
  ·simp[e6]
  ·by_cases e5:c=5
   ·simp[e5];exact h2
   ·cases on
    ·simp[e5,e6];exact h2 rfl
    ·simp[e5,e6]
 ·by_cases e6:c=6
  ·simp[e6]
  ·by_cases e7:c=7
   ·simp[e7]
   ·cases on
    ·simp[e6,e7];exact⟨by omega,h2 rfl⟩
    ·simp[e6,e7];omega
theorem XkX (s:IH)(b:Bool):(Ya s b).1.has.length≤s.has.length+1:=by
 unfold Ya;cases b <;> simp <;> repeat' split
 all_goals simp
theorem Xn6 (s:IH)(b:Bool)(cnt:Nat)(h:s.c=min cnt 7):(Ya s b).1.c=min (if b then cnt+1 else 0) 7:=by
 unfold Ya;cases b
 ·simp only[Bool.false_eq_true,if_false];split
  ·rfl
  ·split <;> rfl
 ·simp only[if_true];split
  ·simp;omega
  ·split
   ·simp;omega
   ·simp;omega
theorem XbC.take {w:World}{b:Nat}{l:List Bool}(h:XbC w b l)(n:Nat):XbC w b (l.take n):=by
 intro i hi;have hi2:i<n∧i<l.length:=by rw[List.length_take]at hi;omega
 rw[h i hi2.2];simp[List.getD,hi2.1]
theorem XbC.keeps {w w':World}{b:Nat}{l:List Bool}(h:XbC w b l)(k:Xb (fun _=>False) w w')(hb:b<w.heap.size):XbC w' b l:=by
 intro i hi;rw[k.cell (p:=⟨b,i,none⟩) hb id];exact h i hi
theorem Xm6 (wr V:World)(h:Below ((wr.alloc (.cells #[.int .i64 0,.slice none 0 0] 65)).drew).heap.size ((wr.alloc (.cells #[.int .i64 0,.slice none 0 0] 65)).drew) V):
  V.cell? ⟨wr.heap.size,0,none⟩=some (.int .i64 0)∧V.cell? ⟨wr.heap.size,1,none⟩=some (.slice none 0 0)∧∀i,V.frozen? ⟨wr.heap.size,i,none⟩=false:=by
 have e:V.heap[wr.heap.size]?=some (.cells #[.int .i64 0,.slice none 0 0] 65 (0,0)):=by
  rw[h.block wr.heap.size (by show wr.heap.size<(wr.alloc _).heap.size;rw[Xk];exact Nat.lt_succ_self _)];exact Xg wr _
 exact⟨by rw[Lib.cell_of_heap e];rfl,by rw[Lib.cell_of_heap e];rfl,fun i=>Lib.frozen_of_heap e i⟩
theorem Xji (wr V:World)(fo:Nat×List UInt8)(p:Option Addr)(c:Nat)(hby:Bytes V wr.drew.heap.size fo p c)(hbl:Below wr.drew.heap.size wr.drew V):
  ∃q p' c',Value.pointer (some ⟨V.heap.size,0,none⟩)=.pointer (some ⟨q,0,none⟩)∧wr.heap.size≤q∧(V.alloc (.cells #[.int .i64 fo.1,.slice p fo.2.length c] 65)).heap[q]?=some (.cells #[.int .i64 fo.1,.slice p' fo.2.length c'] 65 (0,0))∧Bytes (V.alloc (.cells #[.int .i64 fo.1,.slice p fo.2.length c] 65)) wr.heap.size fo p' c'∧Xb (fun _=>False) wr (V.alloc (.cells #[.int .i64 fo.1,.slice p fo.2.length c] 65)):=
 ⟨V.heap.size,p,c,rfl,hbl.size,Xg V _,World.ownsRow.alloc hby _,Xb.alloc (Xb.of (w:=wr) (w':=V) ⟨hbl.os,hbl.tape,hbl.output,hbl.size,hbl.block⟩) _⟩
theorem Xjj (wr V:World)(fo:Nat×List UInt8)(p:Option Addr)(c:Nat)(hby:Bytes V ((wr.alloc (.cells #[.int .i64 0,.slice none 0 0] 65)).drew).heap.size fo p c)(hbl:Below ((wr.alloc (.cells #[.int .i64 0,.slice none 0 0] 65)).drew).heap.size ((wr.alloc (.cells #[.int .i64 0,.slice none 0 0] 65)).drew) V):
  ∃q p' c',Value.pointer (some ⟨wr.heap.size,0,none⟩)=.pointer (some ⟨q,0,none⟩)∧wr.heap.size≤q∧((V.setCell ⟨wr.heap.size,0,none⟩ (.int .i64 fo.1)).setCell ⟨wr.heap.size,1,none⟩ (.slice p fo.2.length c)).heap[q]?=some (.cells #[.int .i64 fo.1,.slice p' fo.2.length c'] 65 (0,0))∧Bytes ((V.setCell ⟨wr.heap.size,0,none⟩ (.int .i64 fo.1)).setCell ⟨wr.heap.size,1,none⟩ (.slice p fo.2.length c)) wr.heap.size fo p' c'∧Xb (fun _=>False) wr ((V.setCell ⟨wr.heap.size,0,none⟩ (.int .i64 fo.1)).setCell ⟨wr.heap.size,1,none⟩ (.slice p fo.2.length c)):=by
 have hz:((wr.alloc (.cells #[.int .i64 0,.slice none 0 0] 65)).drew).heap.size=wr.heap.size+1:=Xk wr _
 have e:V.heap[wr.heap.size]?=some (.cells #[.int .i64 0,.slice none 0 0] 65 (0,0)):=by
  rw[hbl.block wr.heap.size (by rw[hz];exact Nat.lt_succ_self _)];exact Xg wr _
 rw[hz]at hby;have hb0:Below wr.heap.size wr V:=(((Below.refl wr.heap.size wr).alloc (Nat.le_refl _) (.cells #[.int .i64 0,.slice none 0 0] 65)).drew).trans (hbl.mono (by rw[hz];exact Nat.le_succ _));refine⟨wr.heap.size,p,c,rfl,Nat.le_refl _,?_,Xw (ownsRow_setCell_below (ownsRow_setCell_below hby (Nat.lt_succ_self _) _) (Nat.lt_succ_self _) _) (Nat.le_succ _),Xb.of ((hb0.setCell (p:=⟨wr.heap.size,0,none⟩) (Nat.le_refl _) _).setCell (p:=⟨wr.heap.size,1,none⟩) (Nat.le_refl _) _)⟩;simp[World.setCell,Array.getElem?_modify,e]
theorem Xje (sc:IH)(bs:List Bool)(pos:Nat)(bit:Bool)(h1:IH)(t:List (Nat×List UInt8))(acc:List (Nat×List UInt8))(hd:bs.drop pos=bit::bs.drop (pos+1))
  (e1:(Yp sc (bs.drop pos)).1=h1) (e2:acc++(Yp sc (bs.drop pos)).2=t):
  (Yp (Ya sc bit).1 (bs.drop (pos+1))).1=h1∧(acc++(Ya sc bit).2.toList)++(Yp (Ya sc bit).1 (bs.drop (pos+1))).2=t:=by
 rw[hd]at e1 e2;simp only[Yp]at e1 e2;exact⟨e1,by rw[List.append_assoc];exact e2⟩
theorem Xia (rb:Nat)(X:Nat→Prop)(hX:X rb)(s0:IH)(cnt0:Nat)(v0:Value)(bs:List Bool)(w:World)
  (hh:Yh w rb s0.on cnt0 v0) (hr:w.ownsRow 0 4 1 v0 s0.has.length (s0.has.map Value.bool)) (hm:Mine X w.heap.size v0) (hc0:s0.c=min cnt0 7) (hok:IOk s0)
  (hs:bs.length≤1099511627776) (hcn:cnt0≤1099511627776) (hhas:s0.has.length≤1099511627776):
  Calls Tryz.prog 69 #[.pointer (some ⟨rb,0,none⟩),.string ⟨(txt bs).toArray⟩] w fun e w'=>∃vo v t cnt,e=.returned (.tuple #[vo,.int .i64 0])∧t.map Prod.fst=(Yp s0 bs).2∧
   RInv w X rb w' vo (Yp s0 bs).1.on cnt (Yp s0 bs).1.has v t∧(Yp s0 bs).1.c=min cnt 7∧IOk (Yp s0 bs).1∧cnt≤cnt0+bs.length∧(Yp s0 bs).1.has.length≤s0.has.length+bs.length:=by
 obtain⟨i0,hi,hz0,hz1,hz2⟩:=info_parts Xco;obtain⟨i1,hi1,hy0,hy1,hy2⟩:=info_parts XmO;have hsz0:=Xaf bs;have hget:=XcP bs;generalize (⟨(txt bs).toArray⟩:ByteArray)=s at hsz0 hget;have HZ:Hid (s.size=bs.length):=hsz0;have HG:Hid (∀ k (h:k<bs.length) (h':k<s.size),s[k]'h'=chr bs[k]):=hget;have hsl:s.size≤1099511627776:=by omega
 clear hsz0 hget;go_enter Tryz.func69,Tryz.ntmps69
 go_wp2
 go_loop [6] (fun i=>∃k:Nat,k≤s.size∧i=.int .i64 k) (fun i=>s.size -(intOf i).toNat)
 case atStart=>exact⟨0,Nat.zero_le _,rfl⟩
 case round=>
  obtain⟨k,hk,rfl⟩:=hrel;by_cases hlt:k<s.size
  ·have hg:=HG.out k (by rw[← HZ.out];exact hlt) hlt;generalize bs[k]'(by rw[← HZ.out];exact hlt)=bit at hg;cases bit
   ·have e48:(chr false).toNat=48:=by decide
    go_wp2
    go_round
    case rel=>exact⟨k+1,hlt,by go_num⟩
    case measure=>simp[intOf];omega
   ·have e49:(chr true).toNat=49:=by decide
    go_wp2
    go_round
    case rel=>exact⟨k+1,hlt,by go_num⟩
    case measure=>simp[intOf];omega
  ·have HR:Hid (RInv w X rb w (.slice none 0 0) s0.on cnt0 s0.has v0 []):=⟨hh,hr,⟨World.ownsRow_nil _ _ _ _,by simp⟩,Xb.refl _ _,hm⟩;have HC:=hide hc0;have HO:=hide hok;clear hh hr hm hc0 hok;go_wp2
   go_loopw [7,8] (fun vo i wr=>∃(pos:Nat) (sc:IH) (cnt:Nat) (v:Value) (ts:Told),pos≤s.size∧ts.length≤pos∧i=.int .i64 pos∧RInv w X rb wr vo sc.on cnt sc.has v ts∧sc.c=min cnt 7∧IOk sc∧cnt≤cnt0+pos∧sc.has.length≤s0.has.length+pos∧(Yp sc (bs.drop pos)).1=(Yp s0 bs).1∧ts.map Prod.fst++(Yp sc (bs.drop pos)).2=(Yp s0 bs).2) (fun _ i _=>s.size -(intOf i).toNat)
   case atStart=>exact⟨0,s0,cnt0,v0,[],Nat.zero_le _,Nat.le_refl _,rfl,HR.out,HC.out,HO.out,by omega,by omega,rfl,rfl⟩
   case round=>
    clear HR HC HO;obtain⟨pos,sc,cnt,v,ts,hpos,hts,rfl,hI,hcap,hok,hcnt,hhl,hf1,hf2⟩:=hrel;by_cases hp:pos<s.size
    ·have hpb:pos<bs.length:=by rw[← HZ.out];exact hp
     have hb0:=HG.out pos hpb hp;have hdrop:bs.drop pos=bs[pos]::bs.drop (pos+1):=List.drop_eq_getElem_cons hpb;have hF:=Xje sc bs pos bs[pos] _ _ _ hdrop hf1 hf2;clear hf1 hf2 hdrop;generalize bs[pos]=bit at hb0 hF;have c0:=hI.head.c0;have c1:=hI.head.c1;have c2:=hI.head.c2;have fz:=hI.head.fz;have HF:=hide hF;have HI:=hide hI;have HK:=hide hok;have hok7:=hok.1;clear hF hI hok;have HS:=hide (XmK sc bit (Xa HK));have HL:=hide (XkX sc bit);have HC:=hide (Xn6 sc bit cnt hcap);cases bit
     ·have e48:(chr false).toNat=48:=by decide
      by_cases h6:cnt=6
      ·subst h6;have hc6:sc.c=6:=by simpa using hcap
       by_cases hon:sc.on=true
       ·rw[hon]at c0;by_cases hl6:6<sc.has.length
        ·have hE:Ya sc false=(⟨true,0,[]⟩,some (Yg (sc.has.take (sc.has.length-6)))):=by simp[Ya,hc6,hon,hl6]
         have hg6:(6:Int)<(sc.has.length:Int):=by omega
         obtain⟨g,cp,hv,hgl,hgc,hsg⟩:=(Xa HI).seg (by omega);rw[hv]at c2
         have HFO:Hid (∀ W:World,Xb (fun _=>False) wr W→Calls Tryz.prog 109 #[.slice (some ⟨g,0,none⟩) (sc.has.length-6) cp] W fun e w'=>∃p c,e=.returned (.agg #[.int .i64 (Yg (sc.has.take (sc.has.length-6))).1,.slice p (Yg (sc.has.take (sc.has.length-6))).2.length c])∧Bytes w' W.heap.size (Yg (sc.has.take (sc.has.length-6))) p c∧Below W.heap.size W w'):=
          fun W hW=>Xg8 g (sc.has.length-6) cp (sc.has.take (sc.has.length-6)) W (by rw[List.length_take];omega) (by unfold maxLen;omega) (Nat.lt_of_lt_of_le hgl hW.size) ((hsg.keeps hW hgl).take _)
         have ht6:((sc.has.length:Int)-6).toNat=sc.has.length-6:=by omega
         generalize Yg (sc.has.take (sc.has.length-6))=fo at HFO hE;clear hsg;have hwrap:IntKind.i64.wrap ((sc.has.length:Int)-6)=(sc.has.length:Int)-6:=by rw[IntKind.wrap_i64];omega
         have q1:(6:Int)≤(sc.has.length:Int):=by omega
         have q2:(sc.has.length:Int)-6≤(cp:Int):=by omega
         have hrb:=(Xa HI).head.lt;go_wp2
         go_cut [9]from 26 to 152 (fun s9 wx=>∃q p c,s9=.pointer (some ⟨q,0,none⟩)∧wr.heap.size≤q∧wx.heap[q]?=some (.cells #[.int .i64 fo.1,.slice p fo.2.length c] 65 (0,0))∧Bytes wx wr.heap.size fo p c∧Xb (fun _=>False) wr wx)
         case first=>
          go_region_with (go_at_call 109;refine(Xa HFO _ ?_).mono ?_;exact⟨rfl,rfl,rfl,by simp,fun k hk _=>by first|rfl|exact Below.heap_alloc _ _ _ hk⟩;rintro e V ⟨p,c,rfl,hby,hbl⟩;try (have yy:=Xm6 wr V hbl;obtain⟨y0,y1,yz⟩:=yy))
          all_goals go_wp2_with fail
          all_goals go_meet
          all_goals first|exact Xji wr V fo p c hby hbl|exact Xjj wr V fo p c hby hbl
         case rest=>
          obtain⟨q,p,c,rfl,hq,hcell,hby,hK⟩:=hcut;have hwz:=(Xa HI).keeps.size;have HB:=hide ((Xa HI).later hK);have hd:=(Xa HB).head;have d0:=hd.c0;have d1:=hd.c1;have d2:=hd.c2;have dz:=hd.fz;rw[hon]at d0;have y0:wc.cell? ⟨q,0,none⟩=some (.int .i64 fo.1):=by rw[Lib.cell_of_heap hcell];rfl
          have y1:wc.cell? ⟨q,1,none⟩=some (.slice p fo.2.length c):=by rw[Lib.cell_of_heap hcell];rfl
          have HW:=hide ((Xa HB).told.1.alloc (.cells #[.int .i64 fo.1,.slice p fo.2.length c] 65));have hwz2:=hK.size;have HBY:=hide hby;clear hd c0 c1 c2 fz hcell hby hK HFO;go_wp2_with (at_builtin;refine wpList_append_own _ rfl _ _ 63 rfl w.heap.size 65 i0 _ 2 32 Tryz.underlying63 hi hz0 hz1 hz2 rfl (by decide) _ _ _ rfl (Xa HW) ⟨wc.heap.size,0,none⟩ 1 1 [.int .i64 fo.1,.slice p fo.2.length c] rfl rfl ?foundc1 ?foundc2 ?foundc3 ?foundc4 ?foundc5 ?_)
          case foundc1=>exact XjB wc _ _ _
          case foundc2=>intro u hu;simp at hu;rcases hu with rfl|rfl <;> rfl
          case foundc3=>unfold maxLen;omega
          case foundc4=>omega
          case foundc5=>rw[Xk];omega
          intro v' w2 hown hg _;have HP:=hide ((Xa HB).tell (Xa HBY) hwz hown hg);have hd:=(Xa HP).head;clear d0 d1 d2 dz y0 y1 HW;have d0:=hd.c0;have d1:=hd.c1;have d2:=hd.c2;have dz:=hd.fz;rw[hon]at d0
          obtain⟨ao,n',cp2,rfl⟩:∃ao n' cp,v'=.slice ao n' cp:=by
           rcases hown.2 with⟨hv,_⟩|⟨g,cp,cur,hv,_⟩
           ·exact ⟨_,_,_,hv⟩
           ·exact ⟨_,_,_,hv⟩
          clear hown hg hd;go_wp2
          go_roundw
          case rel=>
           have hF:=HF.out;have hS:=HS.out;rw[hE]at hF hS;exact⟨pos+1,⟨true,0,[]⟩,0,.slice none 0 0,ts++[(fo,(p,c))],hp,by simp;omega,by go_num,(((Xa HP).set0 hX true).Xcx hX).set1 hX 0,rfl,hS,by omega,by simp,hF.1,by simpa using hF.2⟩
          case measure=>simp[intOf];omega
        ·have hE:Ya sc false=(⟨true,0,[]⟩,none):=by simp[Ya,hc6,hon,hl6]
         have hg6:¬(6:Int)<(sc.has.length:Int):=by omega
         obtain⟨pp,cp,hv⟩:=(Xa HI).length;rw[hv]at c2;clear hv;go_wp2
         go_roundw
         case rel=>
          have hF:=HF.out;have hS:=HS.out;rw[hE]at hF hS;exact⟨pos+1,⟨true,0,[]⟩,0,.slice none 0 0,ts,hp,by omega,by go_num,(((Xa HI).set0 hX true).Xcx hX).set1 hX 0,rfl,hS,by omega,by simp,hF.1,by simpa using hF.2⟩
         case measure=>simp[intOf];omega
       ·simp only[Bool.not_eq_true]at hon;rw[hon]at c0;have hE:Ya sc false=(⟨true,0,[]⟩,none):=by simp[Ya,hc6,hon]
        go_wp2
        go_roundw
        case rel=>
         have hF:=HF.out;have hS:=HS.out;rw[hE]at hF hS;exact⟨pos+1,⟨true,0,[]⟩,0,.slice none 0 0,ts,hp,by omega,by go_num,(((Xa HI).set0 hX true).Xcx hX).set1 hX 0,rfl,hS,by omega,by simp,hF.1,by simpa using hF.2⟩
        case measure=>simp[intOf];omega
      ·have h6':((cnt:Int)==6)=false:=by simp;omega
       have hc6:sc.c≠6:=by omega
       by_cases h5:cnt=5
       ·subst h5;have hc5:sc.c=5:=by simpa using hcap
        have hE:Ya sc false=(⟨sc.on,0,sc.has⟩,none):=by simp[Ya,hc5]
        go_wp2
        go_roundw
        case rel=>
         have hF:=HF.out;have hS:=HS.out;rw[hE]at hF hS;exact⟨pos+1,⟨sc.on,0,sc.has⟩,0,v,ts,hp,by omega,by go_num,(Xa HI).set1 hX 0,rfl,hS,by omega,by simp;omega,hF.1,by simpa using hF.2⟩
        case measure=>simp[intOf];omega
       ·have h5':((cnt:Int)==5)=false:=by simp;omega
        have hc5:sc.c≠5:=by omega
        by_cases hon:sc.on=true
        ·rw[hon]at c0;have hE:Ya sc false=(⟨true,0,sc.has++[false]⟩,none):=by simp[Ya,hc5,hc6,hon]
         have HW:=hide ((Xa HI).row.alloc (.cells #[.bool false] 4));go_wp2_with (at_builtin;refine wpList_append_own_at _ rfl _ _ 70 rfl 0 4 i1 _ 1 1 Tryz.underlying70 hi1 hy0 hy1 hy2 rfl (by decide) _ _ _ rfl (Xa HW) ⟨wr.heap.size,0,none⟩ 1 1 [.bool false] rfl rfl ?putac1 ?putac2 ?putac3 ?putac4 ?putac5 ?_)
         case putac1=>exact QR wr _ _
         case putac2=>intro u hu;simp at hu;subst hu;rfl
         case putac5=>exact Nat.zero_le _
         case putac3=>unfold maxLen;omega
         case putac4=>omega
         intro v' w2 hown hg _ hb;have hd:=(Xa HI).pushHead hg;have d2:=hd.c2;have d1:=hd.c1;have dz:=hd.fz;have HP:=hide ((Xa HI).push hX hown hg hb (by have:=(Xa HI).keeps.size;omega))
         obtain⟨ao,n',cp,rfl⟩:∃ao n' cp,v'=.slice ao n' cp:=by
          rcases hown.2 with⟨hv,_⟩|⟨g,cp,cur,hv,_⟩
          ·exact ⟨_,_,_,hv⟩
          ·exact ⟨_,_,_,hv⟩
         clear hown hg hb hd;go_wp2
         go_roundw
         case rel=>
          have hF:=HF.out;have hS:=HS.out;rw[hE]at hF hS;have hI:=(Xa HP).set1 hX 0;rw[hon]at hI;exact⟨pos+1,⟨true,0,sc.has++[false]⟩,0,_,ts,hp,by omega,by go_num,hI,rfl,hS,by omega,by simp;omega,hF.1,by simpa using hF.2⟩
         case measure=>simp[intOf];omega
        ·simp only[Bool.not_eq_true]at hon;rw[hon]at c0;have hE:Ya sc false=(⟨false,0,sc.has⟩,none):=by simp[Ya,hc5,hc6,hon]
         go_wp2
         go_roundw
         case rel=>
          have hF:=HF.out;have hS:=HS.out;rw[hE]at hF hS;have hI:=(Xa HI).set1 hX 0;rw[hon]at hI;exact⟨pos+1,⟨false,0,sc.has⟩,0,v,ts,hp,by omega,by go_num,hI,rfl,hS,by omega,by simp;omega,hF.1,by simpa using hF.2⟩
         case measure=>simp[intOf];omega
     ·have e49:(chr true).toNat=49:=by decide
      by_cases h6:cnt=6
      ·subst h6;have hc6:sc.c=6:=by simpa using hcap
       by_cases hon:sc.on=true
       ·rw[hon]at c0;by_cases hl6:6<sc.has.length
        ·have hE:Ya sc true=(⟨false,7,[]⟩,some (2,[])):=by simp[Ya,hc6,hon,hl6]
         have hg6:(6:Int)<(sc.has.length:Int):=by omega
         obtain⟨pp,cp,hv⟩:=(Xa HI).length;rw[hv]at c2;clear hv;have HB:=hide ((Xa HI).set1 hX 7);have HW:=hide ((Xa HB).told.1.alloc (.cells #[.int .i64 2,.slice none 0 0] 65));have hwz:=(Xa HI).keeps.size;go_wp2_with (at_builtin;refine wpList_append_own _ rfl _ _ 63 rfl w.heap.size 65 i0 _ 2 32 Tryz.underlying63 hi hz0 hz1 hz2 rfl (by decide) _ _ _ rfl (Xa HW) ⟨wr.heap.size,0,none⟩ 1 1 [.int .i64 2,.slice none 0 0] rfl rfl ?putbc1 ?putbc2 ?putbc3 ?putbc4 ?putbc5 ?_)
         case putbc2=>exact⟨rfl,rfl⟩
         case putbc3=>unfold maxLen;omega
         case putbc4=>omega
         case putbc5=>omega
         intro v' w2 hown hg _;have HP:=hide ((Xa HB).tell (f:=(2,[])) (Bytes.none _ w.heap.size 2) (Nat.le_refl _) hown hg);have hd:=(Xa HP).head;have d0:=hd.c0;have d1:=hd.c1;have d2:=hd.c2;have dz:=hd.fz;rw[hon]at d0
         obtain⟨ao,n',cp,rfl⟩:∃ao n' cp,v'=.slice ao n' cp:=by
          rcases hown.2 with⟨hv,_⟩|⟨g,cp,cur,hv,_⟩
          ·exact ⟨_,_,_,hv⟩
          ·exact ⟨_,_,_,hv⟩
         clear hown hg hd c0 c1 c2 fz;go_wp2
         go_roundw
         case rel=>
          have hF:=HF.out;have hS:=HS.out;rw[hE]at hF hS;exact⟨pos+1,⟨false,7,[]⟩,7,.slice none 0 0,ts++[((2,[]),(none,0))],hp,by simp;omega,by go_num,((Xa HP).set0 hX false).Xcx hX,rfl,hS,by omega,by simp,hF.1,by simpa using hF.2⟩
         case measure=>simp[intOf];omega
        ·have hE:Ya sc true=(⟨false,7,[]⟩,none):=by simp[Ya,hc6,hon,hl6]
         have hg6:¬(6:Int)<(sc.has.length:Int):=by omega
         obtain⟨pp,cp,hv⟩:=(Xa HI).length;rw[hv]at c2;clear hv;go_wp2
         go_roundw
         case rel=>
          have hF:=HF.out;have hS:=HS.out;rw[hE]at hF hS;exact⟨pos+1,⟨false,7,[]⟩,7,.slice none 0 0,ts,hp,by omega,by go_num,(((Xa HI).set1 hX 7).set0 hX false).Xcx hX,rfl,hS,by omega,by simp,hF.1,by simpa using hF.2⟩
         case measure=>simp[intOf];omega
       ·simp only[Bool.not_eq_true]at hon;rw[hon]at c0;have hE:Ya sc true=(⟨false,7,[]⟩,none):=by simp[Ya,hc6,hon]
        have hnil:sc.has=[]:=(Xa HK).2.1 hon;go_wp2
        go_roundw
        case rel=>
         have hF:=HF.out;have hS:=HS.out;rw[hE]at hF hS;have hI:=(Xa HI).set1 hX 7;rw[hon,hnil]at hI;exact⟨pos+1,⟨false,7,[]⟩,7,v,ts,hp,by omega,by go_num,hI,rfl,hS,by omega,by simp,hF.1,by simpa using hF.2⟩
        case measure=>simp[intOf];omega
      ·have h7:((cnt:Int)+1==7)=false:=by simp;omega
       by_cases hon:sc.on=true
       ·rw[hon]at c0;by_cases h5:cnt+1≤5
        ·have hE:Ya sc true=(⟨true,cnt+1,sc.has++[true]⟩,none):=by
          have e:sc.c=cnt:=by omega
          have e7:cnt≠7:=by omega
          simp[Ya,e,hon,h6,e7,h5]
         have h5':(cnt:Int)+1≤5:=by omega
         have HB:=hide ((Xa HI).set1 hX (cnt+1));have HW:=hide ((Xa HB).row.alloc (.cells #[.bool true] 4));go_wp2_with (at_builtin;refine wpList_append_own_at _ rfl _ _ 70 rfl 0 4 i1 _ 1 1 Tryz.underlying70 hi1 hy0 hy1 hy2 rfl (by decide) _ _ _ rfl (Xa HW) ⟨wr.heap.size,0,none⟩ 1 1 [.bool true] rfl rfl ?putcc1 ?putcc2 ?putcc3 ?putcc4 ?putcc5 ?_)
         case putcc2=>rfl
         case putcc3=>unfold maxLen;omega
         case putcc4=>omega
         intro v' w2 hown hg _ hb;have hd:=(Xa HB).pushHead hg;have d2:=hd.c2;have dz:=hd.fz;have HP:=hide ((Xa HB).push hX hown hg hb (by have:=(Xa HI).keeps.size;omega))
         obtain⟨ao,n',cp,rfl⟩:∃ao n' cp,v'=.slice ao n' cp:=by
          rcases hown.2 with⟨hv,_⟩|⟨g,cp,cur,hv,_⟩
          ·exact ⟨_,_,_,hv⟩
          ·exact ⟨_,_,_,hv⟩
         clear hown hg hb hd;go_wp2
         go_roundw
         case rel=>
          have hF:=HF.out;have hS:=HS.out;rw[hE]at hF hS;have hI:=Xa HP;rw[hon]at hI;exact⟨pos+1,⟨true,cnt+1,sc.has++[true]⟩,cnt+1,_,ts,hp,by omega,by go_num,hI,by simp;omega,hS,by omega,by simp;omega,hF.1,by simpa using hF.2⟩
         case measure=>simp[intOf];omega
        ·have hc7:sc.c≠7:=fun e=>by have:=(Xa HK).2.2 e;rw[hon]at this;cases this
         have hc5:cnt=5:=by omega
         subst hc5;have hc5:sc.c=5:=by simpa using hcap
         have hE:Ya sc true=(⟨true,6,sc.has⟩,none):=by simp[Ya,hc5,hon]
         go_wp2
         go_roundw
         case rel=>
          have hF:=HF.out;have hS:=HS.out;rw[hE]at hF hS;have hI:=(Xa HI).set1 hX 6;rw[hon]at hI;exact⟨pos+1,⟨true,6,sc.has⟩,6,v,ts,hp,by omega,by go_num,hI,rfl,hS,by omega,by simp;omega,hF.1,by simpa using hF.2⟩
         case measure=>simp[intOf];omega
       ·simp only[Bool.not_eq_true]at hon;rw[hon]at c0;have hnil:sc.has=[]:=(Xa HK).2.1 hon
        have hE:Ya sc true=(⟨false,min (cnt+1) 7,[]⟩,none):=by
         have q:=HC.out;have h6':sc.c≠6:=by omega
         by_cases h7':sc.c=7
         ·have q7:7≤cnt:=by omega
          simp[Ya,h7',hon];omega
         ·simp[Ya,h6',h7',hon,hnil];omega
        go_wp2
        go_roundw
        case rel=>
         have hF:=HF.out;have hS:=HS.out;rw[hE]at hF hS;have hI:=(Xa HI).set1 hX (cnt+1);rw[hon,hnil]at hI;exact⟨pos+1,⟨false,min (cnt+1) 7,[]⟩,cnt+1,v,ts,hp,by omega,by go_num,hI,rfl,hS,by omega,by simp,hF.1,by simpa using hF.2⟩
        case measure=>simp[intOf];omega
    ·have hd:bs.drop pos=[]:=List.drop_eq_nil_of_le (by have:=HZ.out;omega);rw[hd]at hf1 hf2;simp only[Yp,List.append_nil]at hf1 hf2;have hZ:=HZ.out;have q:RInv w X rb wr _ sc.on cnt sc.has v ts∧sc.c=min cnt 7∧IOk sc∧cnt≤cnt0+bs.length∧sc.has.length≤s0.has.length+bs.length:=⟨hI,hcap,hok,by omega,by omega⟩;rw[hf1]at q;have HH:=hide q;clear q;have HT:=hide hf2;clear hf1 hf2 hI hd;go_wp2
     go_ret2
     exact⟨_,v,ts,cnt,rfl,Xa HT,Xa HH⟩
end Go.Proofs.YtkalonhalhdlaaaGreatDoor
