import Derived.Test.YtkalonhalhdlaaaGreatDoorRFeed2
import Derived.Test.YtkalonhalhdlaaaGreatDoorG14
set_option maxHeartbeats 8000000
set_option maxRecDepth 1000000
namespace Go.Proofs.YtkalonhalhdlaaaGreatDoor
open Go.RowKit
def Q9 (x:UInt8):Bool:=x==48||x==49
def J4 (s:ByteArray):Prop:=∀i (h:i<s.size),Q9 (s[i]'h)=true
theorem XhB (s:ByteArray)(h:J4 s):∃bs,s=⟨(txt bs).toArray⟩∧bs.length=s.size:=by
 refine⟨s.data.toList.map (fun x=>x==49),?_,by simp⟩
 have e:txt (s.data.toList.map (fun x=>x==49))=s.data.toList:=by
  unfold txt;rw[List.map_map];apply List.ext_getElem
  ·simp
  ·intro i h1 h2;have hi:i<s.size:=by simpa using h2
   have q:=h i hi;have e2:s[i]'hi=s.data.toList[i]:=by simp[ByteArray.getElem_eq_getElem_data]
   rw[e2]at q;simp only[List.getElem_map,Function.comp_apply];generalize s.data.toList[i]=x at q;simp only[Q9,Bool.or_eq_true,beq_iff_eq]at q;rcases q with rfl|rfl <;> decide
 rw[e]
theorem XcU (s:ByteArray)(h:¬J4 s):∃i,∃h:i<s.size,Q9 (s[i]'h)=false:=by
 by_cases hq:∃i,∃h:i<s.size,Q9 (s[i]'h)=false
 ·exact hq
 ·refine absurd ?_ h;intro i hi;by_cases hb:Q9 (s[i]'hi)=true
  ·exact hb
  ·exact absurd ⟨i,hi,by simpa using hb⟩ hq
theorem Xc0 (x:UInt8)(h:Q9 x=true):x.toNat=48∨x.toNat=49:=by
 simp only[Q9,Bool.or_eq_true,beq_iff_eq]at h;rcases h with rfl|rfl
 ·left;decide
 ·right;decide
theorem Xe7 (x:UInt8)(h:Q9 x=false):x.toNat≠48∧x.toNat≠49:=by
 simp only[Q9,Bool.or_eq_false_iff,beq_eq_false_iff_ne]at h;exact⟨fun e=>h.1 (UInt8.toNat_inj.1 (by rw[e];rfl)),fun e=>h.2 (UInt8.toNat_inj.1 (by rw[e];rfl))⟩
theorem XgQ (s:ByteArray)(w:World)(hb:¬J4 s)(_hs:s.size≤1099511627776):
  Calls Tryz.prog 107 #[.string s] w fun e w'=>e=.returned (.bool false)∧Below w.heap.size w w':=by
 have HB:=hide (XcU s hb);clear hb;go_enter Tryz.func107,Tryz.ntmps107
 go_wp2
 go_loopw [] (fun wr=>∃(pos:Nat),pos≤s.size∧wr.heap[w.heap.size]?=some (.stringIter s pos)∧Below w.heap.size w wr∧∃i,∃h:i<s.size,pos≤i∧Q9 (s[i]'h)=false) (fun wr=>s.size-wr.iterPos w.heap.size)
 case atStart=>
  obtain⟨i,h,q⟩:=Xa HB;refine⟨0,Nat.zero_le _,?_,(Below.refl _ w).alloc (Nat.le_refl _) _,i,h,Nat.zero_le _,q⟩;exact World.iter_heap w s 0
 case round=>
  obtain⟨pos,hpos,hit,hbw,i,hi,hpi,hbad⟩:=hrel;have hp':pos<s.size:=by omega
  by_cases hx:Q9 (s[pos]'hp')=true
  ·have hne:pos≠i:=fun e=>by subst e;rw[hx]at hbad;cases hbad
   have hpi':pos+1≤i:=by omega
   have HBAD:=hide hbad;have hxc:=Xc0 _ hx;have hnx:∀ty,(Instr.next (.pointer (some ⟨w.heap.size,0,none⟩)) true ty).run Tryz.prog wr=_:=fun ty=>Lib.run_next_ascii_at wr w.heap.size s pos ty hit hp' (by omega)
   have hit2:=Lib.iterAt_heap wr w.heap.size s pos (pos+1) hit;have hbw2:=Lib.below_iterAt hbw (k:=w.heap.size) (Nat.le_refl _) s (pos+1);generalize (s[pos]'hp')=x at hnx hxc hx;clear hx hbad;rcases hxc with e|e
   ·rw[e]at hnx;go_wp2
    go_roundw
    case rel=>exact⟨pos+1,by omega,hit2,hbw2,i,hi,hpi',Xa HBAD⟩
    case measure=>
     simp only[World.iterPos,hit2,hit];omega
   ·rw[e]at hnx;go_wp2
    go_roundw
    case rel=>exact⟨pos+1,by omega,hit2,hbw2,i,hi,hpi',Xa HBAD⟩
    case measure=>
     simp only[World.iterPos,hit2,hit];omega
  ·have hxn:=Xe7 (s[pos]'hp') (by simpa using hx)
   have hr:(Utf8.decode s pos).1≠48∧(Utf8.decode s pos).1≠49:=by
    by_cases h128:(s[pos]'hp').toNat<128
    ·rw[decode_ascii s pos hp' h128];exact hxn
    ·have:=(decode_high s pos hp' (by omega)).1;omega
   have hnx:∀ty,(Instr.next (.pointer (some ⟨w.heap.size,0,none⟩)) true ty).run Tryz.prog wr=_:=fun ty=>Lib.run_next_any_at wr w.heap.size s pos ty hit hp'
   have hbw2:=Lib.below_iterAt hbw (k:=w.heap.size) (Nat.le_refl _) s (pos+(Utf8.decode s pos).2);generalize Utf8.decode s pos=r at hnx hr hbw2;have g1:((r.1:Int) != 48)=true:=by simp;omega
   have g2:((r.1:Int) != 49)=true:=by simp;omega
   clear hx hxn hbad;go_wp2
   go_ret
   exact⟨rfl,hbw2⟩
theorem feed_bad (b:Nat)(s:ByteArray)(w:World)(hb:¬J4 s)(hs:s.size≤1099511627776):
  Calls Tryz.prog 68 #[.pointer (some ⟨b,0,none⟩),.string s] w fun e w'=>e=.returned (.tuple #[.slice none 0 0,.int .i64 1])∧Below w.heap.size w w':=by
 have HOB:=hide (XgQ s w hb hs);go_enter Tryz.func68,Tryz.ntmps68
 go_wp2_with fail
 refine(Xa HOB).mono ?_;rintro e W0 ⟨rfl,hb0⟩;go_wp2
 go_ret2
 exact⟨rfl,hb0⟩
theorem Xh9 (b:Nat)(s:ByteArray)(w:World)(hb:¬J4 s)(hs:s.size≤1099511627776):
  Calls Tryz.prog 69 #[.pointer (some ⟨b,0,none⟩),.string s] w fun e w'=>e=.returned (.tuple #[.slice none 0 0,.int .i64 1])∧w'=w:=by
 have HB:=hide (XcU s hb);clear hb;go_enter Tryz.func69,Tryz.ntmps69
 go_wp2
 go_loop [6] (fun v=>∃(pos:Nat),pos≤s.size∧v=.int .i64 pos∧∃i,∃h:i<s.size,pos≤i∧Q9 (s[i]'h)=false) (fun v=>s.size -(intOf v).toNat)
 case atStart=>
  obtain⟨i,h,q⟩:=Xa HB;exact⟨0,Nat.zero_le _,rfl,i,h,Nat.zero_le _,q⟩
 case round=>
  obtain⟨pos,hpos,rfl,i,hi,hpi,hbad⟩:=hrel;have hp':pos<s.size:=by omega
  by_cases hx:Q9 (s[pos]'hp')=true
  ·have hne:pos≠i:=fun e=>by subst e;rw[hx]at hbad;cases hbad
   have hpi':pos+1≤i:=by omega
   have HBAD:=hide hbad;have hxc:=Xc0 _ hx;clear hx hbad;rcases hxc with e|e
   ·go_wp2
    go_round
    case rel=>exact⟨pos+1,by omega,by go_num,i,hi,hpi',Xa HBAD⟩
    case measure=>simp[intOf];omega
   ·go_wp2
    go_round
    case rel=>exact⟨pos+1,by omega,by go_num,i,hi,hpi',Xa HBAD⟩
    case measure=>simp[intOf];omega
  ·have hxn:=Xe7 (s[pos]'hp') (by simpa using hx);have g1:(((s[pos]'hp').toNat:Int) != 48)=true:=by simp;omega
   have g2:(((s[pos]'hp').toNat:Int) != 49)=true:=by simp;omega
   clear hx hxn hbad;go_wp2
   go_ret2
   exact⟨rfl,rfl⟩
theorem Xjm (h:HS)(b:Bool)(f:Nat×List UInt8)(ok:h.ok)(e:(Yx h b).2=some f):f.2.length≤66:=by
 have hj:∀n,(YS h.held n).2.length≤66:=by
  intro n;unfold YS;split
  ·simp
  ·split
   ·simp
   ·split
    ·simp
    ·split
     ·have:=ok.1;simp only[List.length_take];omega
     ·simp
 have ha:∀g:HS,(Zb g).2=some f→f.2.length≤66:=by
  intro g hg;unfold Zb at hg;simp only at hg;split at hg
  ·cases hg
   simp
  ·cases hg
 unfold Yx at e;split at e
 ·unfold Z5 Xbf at e;split at e
  ·exact ha _ e
  ·split at e <;> cases e
 ·simp only at e;unfold Yz at e;split at e
  ·unfold Qq at e;simp only at e;split at e
   ·cases e
    exact hj _
   ·cases e
  ·split at e <;> cases e
theorem XhJ (h:HS)(l:List Bool)(ok:h.ok):∀f∈(Yv h l).2,f.2.length≤66:=by
 induction l generalizing h with
 |nil=>simp[Yv]
 |cons b r ih=>
  intro f hf;simp only[Yv,List.mem_append]at hf;rcases hf with hf|hf
  ·refine Xjm h b f ok ?_;cases hq:(Yx h b).2 with
   |none=>rw[hq]at hf;simp at hf
   |some g=>rw[hq]at hf;simp at hf;rw[hf]
  ·exact ih _ (XbN h b ok) f hf
structure Ear where
 hb:Nat
 h:HS
 rb:Nat
 s:IH
 cnt:Nat
 v:Value
def Ear.blk (e:Ear)(k:Nat):Prop:=k=e.hb∨k=e.rb∨e.v.ownBlock=some k
structure ZN (w:World)(e:Ear):Prop where
 hunter:Xj w e.hb e.h
 ok:e.h.ok
 head:Yh w e.rb e.s.on e.cnt e.v
 row:w.ownsRow 0 4 1 e.v e.s.has.length (e.s.has.map Value.bool)
 c:e.s.c=min e.cnt 7
 iok:IOk e.s
 sim:Sim e.h e.s
def QP (t:TypeId):Prop:=t=106∨t=72∨t=4
section
variable {w:World}{e:Ear}
theorem ZN.ty (h:ZN w e){k:Nat}(hk:e.blk k):∃c t,w.heap[k]?=some (.cells c t (0,0))∧QP t:=by
 rcases hk with rfl|rfl|hk
 ·exact ⟨_,_,h.hunter,.inl rfl⟩
 ·exact ⟨_,_,h.head,.inr (.inl rfl)⟩
 ·obtain ⟨c,hc⟩:=Xd h.row hk;exact⟨c,_,hc,.inr (.inr rfl)⟩
theorem ZN.lt (h:ZN w e){k:Nat}(hk:e.blk k):k<w.heap.size:=by
 obtain⟨c,t,hc,_⟩:=h.ty hk;exact(Array.getElem?_eq_some_iff.1 hc).1
theorem ZN.not (h:ZN w e){k:Nat}{c:Array Value}{t:TypeId}{fz:Nat×Nat}(hk:w.heap[k]?=some (.cells c t fz))(ht:¬QP t):¬e.blk k:=by
 intro hb;obtain⟨c2,t2,hc,h2⟩:=h.ty hb;rw[hk]at hc;simp only[Option.some.injEq,Obj.cells.injEq]at hc;exact ht (hc.2.1▸h2)
theorem ZN.turned {X:Nat→Prop}{w':World}(h:ZN w e)(hk:Xb X w w')(hx:∀k,e.blk k→¬X k):ZN w' e:=
 ⟨h.hunter.keeps hk (hx _ (.inl rfl)),h.ok,h.head.keeps hk (hx _ (.inr (.inl rfl))),Xc h.row hk (fun k hk=>hx k (.inr (.inr hk))),h.c,h.iok,h.sim⟩
theorem ZN.later {w':World}(h:ZN w e)(hb:Below w.heap.size w w'):ZN w' e:=
 h.turned (X:=fun _=>False) (Xb.of hb) (fun _ _=>id)
end
theorem Xdc {t:TypeId}(h:QP t):¬ZW t:=by
 unfold QP at h;unfold ZW;rcases h with rfl|rfl|rfl <;> decide
def Jz (e:Ear):Value:=.agg #[.pointer (some ⟨e.hb,0,none⟩),.pointer (some ⟨e.rb,0,none⟩)]
def Yf:List Ear→List Value
 | []=> []
 |e::r=>.pointer (some ⟨e.hb,0,none⟩):: .pointer (some ⟨e.rb,0,none⟩)::Yf r
theorem XdH (es fs:List Ear):Yf (es++fs)=Yf es++Yf fs:=by
 induction es with
 |nil=>rfl
 |cons x r ih=>simp[Yf,ih]
theorem Xci (es:List Ear)(i:Nat)(hi:i<es.length):(Yf es)[i*2]?=some (.pointer (some ⟨es[i].hb,0,none⟩))∧(Yf es)[i*2+1]?=some (.pointer (some ⟨es[i].rb,0,none⟩)):=by
 induction es generalizing i with
 |nil=>simp at hi
 |cons x r ih=>
  cases i with
  |zero=>simp[Yf]
  |succ i=>
   have:=ih i (by simpa using hi);rw[show(i+1)*2=i*2+1+1 by omega];simpa[Yf]using this
theorem Xgc (es:List Ear)(i:Nat)(e:Ear)(hi:i<es.length)(h1:e.hb=es[i].hb)(h2:e.rb=es[i].rb):Yf (es.set i e)=Yf es:=by
 induction es generalizing i with
 |nil=>simp at hi
 |cons x r ih=>
  cases i with
  |zero=>simp at h1 h2;simp[Yf,h1,h2]
  |succ i=>simp[Yf,ih i (by simpa using hi) (by simpa using h1) (by simpa using h2)]
theorem XgV {α:Type}{R:α→α→Prop}{l:List α}{i:Nat}{a:α}(h:l.Pairwise R)(h1:∀j (hj:j<l.length),j<i→R l[j] a)(h2:∀j (hj:j<l.length),i<j→R a l[j]):(l.set i a).Pairwise R:=by
 rw[List.pairwise_iff_getElem]at h⊢;intro j k hj hk hjk;rw[List.length_set]at hj hk;rw[List.getElem_set,List.getElem_set];by_cases e1:i=j
 ·subst e1;rw[if_pos rfl,if_neg (by omega)];exact h2 k hk hjk
 ·rw[if_neg e1];by_cases e2:i=k
  ·subst e2;rw[if_pos rfl];exact h1 j hj hjk
  ·rw[if_neg e2];exact h j k hj hk hjk
structure Lw where
 hs:Value
 es:List Ear
 b:Bk
structure Yt (B:Nat)(w:World)(wb:Nat)(ss:Value)(x:Lw):Prop where
 bk:YY w wb x.hs ss x.b
 row:w.ownsRow 0 51 2 x.hs x.es.length (Yf x.es)
 ears:∀e∈x.es,ZN w e
 apart:x.es.Pairwise fun e f=>∀k,e.blk k→¬f.blk k
 lo:B≤wb
 loH:∀k,x.hs.ownBlock=some k→B≤k
 loB:∀k,x.b.blk k→B≤k
 loE:∀e∈x.es,∀k,e.blk k→B≤k
structure Lw.small (x:Lw)(M:Nat):Prop where
 es:x.es.length≤M
 eb:x.b.eb.length≤4*M
 ef:x.b.ef.length≤4*M
 el:x.b.el.length≤4*M
 ei:x.b.ei.length≤4*M
 ears:∀e∈x.es,e.cnt≤M∧e.s.has.length≤M
theorem Lw.small.mono {x:Lw}{M N:Nat}(h:x.small M)(hle:M≤N):x.small N:=
 ⟨Nat.le_trans h.es hle,by have:=h.eb;omega,by have:=h.ef;omega,by have:=h.el;omega,by have:=h.ei;omega,fun e he=>by have:=h.ears e he;omega⟩
section
variable {B:Nat}{w:World}{wb:Nat}{ss:Value}{x:Lw}
theorem Yt.later {w':World}(h:Yt B w wb ss x)(hb:Below w.heap.size w w'):Yt B w' wb ss x:=
 ⟨h.bk.later hb,Xc (X:=fun _=>False) h.row (Xb.of hb) (fun _ _=>id),fun e he=>(h.ears e he).later hb,h.apart,h.lo,h.loH,h.loB,h.loE⟩
end
def Zg (wb:Nat)(x:Lw)(k:Nat):Prop:=k=wb∨x.b.blk k∨∃e∈x.es,e.blk k
def Lfs (x:Lw)(B:Nat)(wb:Nat)(ss:Value)(M:Nat)(w w':World):Prop:=∃x':Lw,Yt B w' wb ss x'∧x'.small M∧Below B w w'∧Xb (Zg wb x) w w'∧x'.hs=x.hs∧∀k,Zg wb x' k→Zg wb x k∨w.heap.size≤k
theorem Lfs.behind {x:Lw}{B wb M:Nat}{ss:Value}{w W w':World}(h:Lfs x B wb ss M W w')(hb:Below w.heap.size w W)(hB:B≤w.heap.size):Lfs x B wb ss M w w':=by
 obtain⟨x',h1,h2,h3,h4,h5,h6⟩:=h;exact⟨x',h1,h2,(hb.mono hB).trans h3,(Xb.of hb).trans h4,h5,fun k hk=>(h6 k hk).imp id (fun q=>Nat.le_trans hb.size q)⟩
theorem Xdh {B:Nat}{w:World}{wb:Nat}{ss:Value}{x:Lw}{M:Nat}(h:Yt B w wb ss x)(hs:x.small M)(hM:M≤200000000000):
  Calls Tryz.prog 13 #[.pointer (some ⟨wb,2,none⟩)] w fun e w'=>e=.returned (.bool true)∧w'=w:=
 XmV wb x.hs ss x.b w h.bk (by have:=hs.eb;omega) (by have:=hs.ef;omega) (by have:=hs.el;omega) (by have:=hs.ei;omega)
theorem Xkx {es:List Ear}(h:es.Pairwise fun e f=>∀k,e.blk k→¬f.blk k){i j:Nat}(hi:i<es.length)(hj:j<es.length)(hne:j≠i):∀k,es[j].blk k→¬es[i].blk k:=by
 intro k h1 h2;rw[List.pairwise_iff_getElem]at h;by_cases hlt:j<i
 ·exact h j i hj hi hlt k h1 h2
 ·exact h i j hi hj (by omega) k h2 h1
theorem Zy {X:Nat→Prop}{B:Nat}{w w':World}(h:Xb X w w')(hX:∀k,X k→B≤k)(hB:B≤w.heap.size):Below B w w':=
 ⟨h.os,h.tape,h.output,h.size,fun k hk=>h.block k (by omega) (fun hx=>by have:=hX k hx;omega)⟩
theorem XkR {B:Nat}{w w2:World}{wb:Nat}{ss:Value}{x:Lw}(h:Yt B w wb ss x){i:Nat}(hi:i<x.es.length){e':Ear}(hk:Xb x.es[i].blk w w2)(he:ZN w2 e')(h1:e'.hb=x.es[i].hb)(h2:e'.rb=x.es[i].rb)
  (hv:∀k,e'.blk k→x.es[i].blk k∨w.heap.size≤k) (hB:B≤w.heap.size):Yt B w2 wb ss {x with es:=x.es.set i e'}∧Below B w w2:=by
 have hmem:x.es[i]∈x.es:=List.getElem_mem hi;have hE:=h.ears _ hmem
 have hnb:∀k,x.b.blk k→¬x.es[i].blk k:=by
  intro k hb;obtain⟨c,t,hc,ht⟩:=h.bk.ty hb;exact hE.not hc (fun hq=>Xdc hq ht)
 have hnw:¬x.es[i].blk wb:=hE.not h.bk.head (by unfold QP;decide)
 have hnr:∀k,x.hs.ownBlock=some k→¬x.es[i].blk k:=by
  intro k hk;obtain⟨c,hc⟩:=Xd h.row hk;exact hE.not hc (by unfold QP;decide)
 have hoth:∀j (hj:j<x.es.length),j≠i→∀k,x.es[j].blk k→¬x.es[i].blk k:=fun j hj hne=>Xkx h.apart hi hj hne
 refine⟨⟨h.bk.turned hk hnw hnb,?_,?_,?_,h.lo,h.loH,h.loB,?_⟩,Zy hk (fun k hk=>h.loE _ hmem k hk) hB⟩
 ·show w2.ownsRow 0 _ 2 x.hs (x.es.set i e').length (Yf (x.es.set i e'))
  rw[List.length_set,Xgc x.es i e' hi h1 h2];exact Xc h.row hk hnr
 ·intro f hf;obtain⟨j,hj,rfl⟩:=List.mem_iff_getElem.1 hf;rw[List.length_set]at hj;rw[List.getElem_set];by_cases hij:i=j
  ·rw[if_pos hij];exact he
  ·rw[if_neg hij];exact(h.ears _ (List.getElem_mem hj)).turned hk (hoth j hj (fun e=>hij e.symm))
 ·refine XgV h.apart ?_ ?_
  ·intro j hj hlt k h3 h4;rcases hv k h4 with h5|h5
   ·exact hoth j hj (by omega) k h3 h5
   ·have:=(h.ears _ (List.getElem_mem hj)).lt h3;omega
  ·intro j hj hlt k h4 h3;rcases hv k h4 with h5|h5
   ·exact hoth j hj (by omega) k h3 h5
   ·have:=(h.ears _ (List.getElem_mem hj)).lt h3;omega
 ·intro f hf k hk;rcases List.mem_or_eq_of_mem_set hf with hf|rfl
  ·exact h.loE f hf k hk
  ·rcases hv k hk with h5|h5
   ·exact h.loE _ hmem k h5
   ·omega
theorem Xe0 {B:Nat}{w w2:World}{wb:Nat}{ss v:Value}{t:Told}{x:Lw}{b':Bk}(h:Yt B w wb ss x)(hb:YY w2 wb x.hs ss b')(hk:Xb (fun k=>k=wb∨x.b.blk k∨Qw v t k) w w2)
  (ht:∀k,Qw v t k→B≤k∧∃c ty fz,w.heap[k]?=some (.cells c ty fz)∧(ty=65∨ty=5)) (hv:∀k,b'.blk k→x.b.blk k∨Qw v t k∨w.heap.size≤k) (hB:B≤w.heap.size):Yt B w2 wb ss {x with b:=b'}∧Below B w w2:=by
 have hlo:∀k,(k=wb∨x.b.blk k∨Qw v t k)→B≤k:=by
  rintro k (rfl|h1|h1)
  ·exact h.lo
  ·exact h.loB k h1
  ·exact (ht k h1).1
 have hty:∀ {k:Nat} {c:Array Value} {ty:TypeId} {fz:Nat×Nat},w.heap[k]?=some (.cells c ty fz)→ty≠45→¬ZW ty→¬(k=wb∨x.b.blk k∨Qw v t k):=by
  rintro k c ty fz hc h1 h2 (rfl|h3|h3)
  ·have h4:=h.bk.head;unfold WAt at h4;rw[hc]at h4;simp only[Option.some.injEq,Obj.cells.injEq]at h4;exact h1 h4.2.1
  ·obtain ⟨c2,t2,hc2,ht2⟩:=h.bk.ty h3;rw[hc]at hc2;simp only[Option.some.injEq,Obj.cells.injEq]at hc2;exact h2 (hc2.2.1▸ht2)
  ·obtain ⟨_,c2,t2,fz2,hc2,ht2⟩:=ht k h3;rw[hc]at hc2;simp only[Option.some.injEq,Obj.cells.injEq]at hc2;apply h2
   rw[hc2.2.1];unfold ZW;rcases ht2 with rfl|rfl <;> decide
 refine⟨⟨hb,?_,?_,h.apart,h.lo,h.loH,?_,h.loE⟩,Zy hk hlo hB⟩
 ·refine Xc h.row hk (fun k hk=> ?_);obtain⟨c,hc⟩:=Xd h.row hk;exact hty hc (by decide) (by unfold ZW;decide)
 ·intro e he;refine(h.ears e he).turned hk (fun k hk=> ?_);obtain⟨c,ty,hc,h2⟩:=(h.ears e he).ty hk;refine hty hc ?_ (Xdc h2);unfold QP at h2;rcases h2 with rfl|rfl|rfl <;> decide
 ·intro k hk;rcases hv k hk with h1|h1|h1
  ·exact h.loB k h1
  ·exact (ht k h1).1
  ·omega
theorem Xbc (w:World):(binOp .eql 63 (.slice none 0 0) (.slice none 0 0)).run Tryz.prog w=.ok (.bool true) w:=by kernel_rfl
theorem XdM (w:World)(a:Addr)(n c:Nat):(binOp .eql 63 (.slice (some a) n c) (.slice none 0 0)).run Tryz.prog w=.ok (.bool false) w:=by kernel_rfl
theorem Xnt {w2:World}{B0:Nat}{v:Value}{t:Told}{b:Bk}(hT:ToldAt w2 B0 v t)(hb:∀k,b.blk k→k<B0):
  ToldAt w2 0 v t∧(∀ x∈t,∀a,x.2.1=some a→a.block<w2.heap.size∧¬b.blk a.block)∧(∀ k,v.ownBlock=some k→¬b.blk k)∧(∀ k,Qw v t k→B0≤k∧∃c ty fz,w2.heap[k]?=some (.cells c ty fz)∧(ty=65∨ty=5)):=by
 refine⟨⟨Xw hT.1 (Nat.zero_le _),fun x hx=>Xw (hT.2 x hx) (Nat.zero_le _)⟩,?_,?_,?_⟩
 ·intro x hx a ha;obtain⟨h1,h2⟩:=XbH (hT.2 x hx) a ha;exact⟨h2,fun hq=>by have:=hb _ hq;omega⟩
 ·intro k hk hq;have h1:=(hT.1.lt k hk).1;have:=hb _ hq;omega
 ·rintro k (hk|⟨x,hx,a,ha,rfl⟩)
  ·obtain ⟨c,hc⟩:=Xd hT.1 hk;exact⟨(hT.1.lt k hk).1,c,_,_,hc,.inl rfl⟩
  ·obtain ⟨h1,h2⟩:=XbH (hT.2 x hx) a ha;have hr:=hT.2 x hx;obtain⟨f,p,cp⟩:=x;simp only at ha;subst ha;obtain⟨c,hc⟩:=Xd hr (k:=a.block) rfl;exact⟨h1,c,_,_,hc,.inr rfl⟩
theorem XkQ {B wb M i:Nat}{ss:Value}{x:Lw}{w:World}{s:ByteArray}(h:Yt B w wb ss x)(hsm:x.small M)(hM:M+s.size≤200000000000)(hB:B≤w.heap.size)(hi:i<x.es.length)(hbt:¬J4 s):
  Calls Tryz.prog 31 #[.pointer (some ⟨wb,0,none⟩),Jz x.es[i],.string s] w fun e w'=>e=.returned (.bool true)∧Lfs x B wb ss (M+s.size+1) w w':=by
 have HF:=hide fun V=>feed_bad x.es[i].hb s V hbt (by omega)
 have HR:=hide fun V=>Xh9 x.es[i].rb s V hbt (by omega)
 have HK:Hid (∀ V,Below w.heap.size w V→Calls Tryz.prog 70 #[.pointer (some ⟨wb,2,none⟩),.slice none 0 0] V fun e w'=>e=.returned (.tuple #[])∧Lfs x B wb ss (M+s.size+1) w w'):=by
  intro V hV;have h2:=h.later hV;have hz:=hV.size;refine(Xbs (t:=[]) h2.bk ⟨World.ownsRow_nil _ _ _ _,fun x hx=>by simp at hx⟩ List.Pairwise.nil (fun x hx=>by simp at hx) (fun k hk=>by cases hk) (by have:=hsm.eb;simp;omega) (fun x hx=>by simp at hx) (by have:=hsm.ef;omega) (by simp)).mono ?_;rintro e w' ⟨rfl,b',k1,k2,k3,k4,k5,k6,k7⟩;obtain⟨q1,q2⟩:=Xe0 h2 k1 k6 (fun k hk=>by rcases hk with hk|⟨x,hx,_⟩;cases hk;simp at hx) k7 (by omega);refine⟨rfl,{x with b:=b'},q1,⟨by have:=hsm.es;show x.es.length≤_;omega,?_,?_,?_,?_,fun e he=>by have:=hsm.ears e he;omega⟩,(hV.mono hB).trans q2,(Xb.of hV).trans (k6.mono (fun k hk=> ?_)),rfl,fun k hk=> ?_⟩
  ·show b'.eb.length≤_
   have:=hsm.eb;simp at k2;omega
  ·show b'.ef.length≤_
   have:=hsm.ef;omega
  ·show b'.el.length≤_
   rw[k4];have:=hsm.el;omega
  ·show b'.ei.length≤_
   rw[k5];have:=hsm.ei;omega
  ·rcases hk with hk|hk|hk|⟨y,hy,_⟩
   ·exact .inl hk
   ·exact .inr (.inl hk)
   ·cases hk
   ·simp at hy
  ·rcases hk with hk|hk|hk
   ·exact .inl (.inl hk)
   ·rcases k7 k hk with h1|(h1|⟨y,hy,_⟩)|h1
    ·exact .inl (.inr (.inl h1))
    ·cases h1
    ·simp at hy
    ·exact .inr (by omega)
   ·exact .inl (.inr (.inr hk))
 unfold Jz;generalize x.es[i].hb=hb at*;generalize x.es[i].rb=rb at*;have hA0:=Xg w (.cells #[.pointer (some ⟨hb,0,none⟩),.pointer (some ⟨rb,0,none⟩)] 51);have hbA:=(Below.refl w.heap.size w).alloc (Nat.le_refl _) (.cells #[.pointer (some ⟨hb,0,none⟩),.pointer (some ⟨rb,0,none⟩)] 51);have hzA:=Xk w (.cells #[.pointer (some ⟨hb,0,none⟩),.pointer (some ⟨rb,0,none⟩)] 51);have hnn:=Xbc;clear h hsm;go_enter Tryz.func31,Tryz.ntmps31
 go_upto_region 1 with fail
 generalize hWA:w.alloc (.cells #[.pointer (some ⟨hb,0,none⟩),.pointer (some ⟨rb,0,none⟩)] 51)=WA at*;clear hWA;generalize hnB:w.heap.size=nB at*;have c0:WA.cell? ⟨nB,0,none⟩=some (.pointer (some ⟨hb,0,none⟩)):=by rw[Lib.cell_of_heap hA0];rfl
 have KF:=hide (Xa HF WA);clear HF;go_wp2_with fail
 refine(Xa KF).mono ?_;rintro e w1 ⟨rfl,hb1⟩;have hA1:=(hb1.block nB (by omega)).trans hA0;have c1:w1.cell? ⟨nB,1,none⟩=some (.pointer (some ⟨rb,0,none⟩)):=by rw[Lib.cell_of_heap hA1];rfl
 have KR:=hide (Xa HR w1);clear HR KF c0 hA0 hA1;go_wp2_with fail
 refine(Xa KR).mono ?_;rintro e w2 ⟨rfl,rfl⟩;have hb2:Below nB w w2:=hbA.trans (hb1.mono (by omega));have KK:=hide (Xa HK w2 hb2);have hn2:=hnn w2;clear HK KR hb2 hbA hb1 c1 hnn;go_wp2
 go_loopw [11,12] (fun a b wr=>a=.bool true∧b=.int .i64 0∧wr=w2) (fun _ _ _=>0)
 case atStart=>exact⟨rfl,rfl,rfl⟩
 case round=>
  obtain⟨rfl,rfl,rfl⟩:=hrel;go_wp2_with fail
  refine(Xa KK).mono ?_;rintro e w3 ⟨rfl,hL⟩;have HL:=hide hL;clear hL KK;go_wp2
  go_ret
  exact⟨rfl,Xa HL⟩
theorem Xjg {B B0 wb M n:Nat}{ss v:Value}{t:Told}{x:Lw}{wr:World}(h:Yt B wr wb ss x)(he:x.es.length≤M)(heb:x.b.eb.length≤4*M)(hef:x.b.ef.length≤4*M)(hel:x.b.el.length≤4*M)(hei:x.b.ei.length≤4*M)(hears:∀e∈x.es,e.cnt≤M+n∧e.s.has.length≤M+n)
  (hT:ToldAt wr B0 v t) (hlt:∀k,x.b.blk k→k<B0) (hA:Apart t) (htl:t.length≤n) (hby:∀x∈t,x.1.2.length≤66) (hM:M+n≤200000000000) (hB:B≤B0) (hBw:B≤wr.heap.size):
  Calls Tryz.prog 70 #[.pointer (some ⟨wb,2,none⟩),v] wr fun e w'=>e=.returned (.tuple #[])∧∃x',Yt B w' wb ss x'∧x'.small (M+n+1)∧Below B wr w'∧Xb (fun k=>k=wb∨x.b.blk k∨B0≤k) wr w'∧x'.hs=x.hs∧x'.es=x.es∧∀k,x'.b.blk k→x.b.blk k∨B0≤k∨wr.heap.size≤k:=by
 obtain⟨q1,q2,q3,q4⟩:=Xnt hT hlt;refine(Xbs h.bk q1 hA q2 q3 (by omega) (fun x hx=>by have:=hby x hx;omega) (by omega) (by omega)).mono ?_;rintro e w' ⟨rfl,b',k1,k2,k3,k4,k5,k6,k7⟩;obtain⟨r1,r2⟩:=Xe0 h k1 k6 (fun k hk=>⟨Nat.le_trans hB (q4 k hk).1,(q4 k hk).2⟩) k7 hBw;refine⟨rfl,{x with b:=b'},r1,⟨by show x.es.length≤_;omega,?_,?_,?_,?_,fun e he=>by have:=hears e he;omega⟩,r2,k6.mono (fun k hk=> ?_),rfl,rfl,fun k hk=>(k7 k hk).imp id (fun q=>q.imp (fun q=>(q4 k q).1) id)⟩
 ·show b'.eb.length≤_
  omega
 ·show b'.ef.length≤_
  omega
 ·show b'.el.length≤_
  rw[k4];omega
 ·show b'.ei.length≤_
  rw[k5];omega
 ·rcases hk with hk|hk|hk
  ·exact .inl hk
  ·exact .inr (.inl hk)
  ·exact .inr (.inr (q4 k hk).1)
def Xgd (e:Ear)(k:Nat):Prop:=k=e.rb∨e.v.ownBlock=some k
theorem Xjf {B wb i cnt:Nat}{ss v vo v':Value}{t t2:Told}{x:Lw}{V w1 w2:World}{bs:List Bool}(h:Yt B V wb ss x)(hi:i<x.es.length)(hB:B≤V.heap.size)
  (f1:t.map Prod.fst=(Yv x.es[i].h bs).2) (f2:ToldAt w1 V.heap.size v t) (f4:Xj w1 x.es[i].hb (Yv x.es[i].h bs).1) (f5:Xb (· =x.es[i].hb) V w1)
  (r1:t2.map Prod.fst=(Yp x.es[i].s bs).2) (r2:RInv w1 (Xgd x.es[i]) x.es[i].rb w2 vo (Yp x.es[i].s bs).1.on cnt (Yp x.es[i].s bs).1.has v' t2) (r3:(Yp x.es[i].s bs).1.c=min cnt 7) (r4:IOk (Yp x.es[i].s bs).1):
  ∃e':Ear,Yt B w2 wb ss {x with es:=x.es.set i e'}∧Below B V w2∧e'.cnt=cnt∧e'.s.has=(Yp x.es[i].s bs).1.has∧ToldAt w2 V.heap.size v t∧ToldAt w2 V.heap.size vo t2∧t2.map Prod.fst=t.map Prod.fst∧Xb x.es[i].blk V w2∧∀k,e'.blk k→x.es[i].blk k∨V.heap.size≤k:=by
 have hmem:x.es[i]∈x.es:=List.getElem_mem hi;have hE:=h.ears _ hmem;have hsf:=Xnk _ _ bs hE.sim;have hX1:∀k,Xgd x.es[i] k→k<V.heap.size:=fun k hk=>hE.lt (.inr hk)
 have hnX:¬Xgd x.es[i] x.es[i].hb:=by
  rintro(e|e)
  ·have h1:=hE.hunter;have h2:=hE.head;unfold Xj at h1;unfold Yh at h2;rw[← e,h1]at h2;simp at h2
  ·obtain ⟨c,hc⟩:=Xd hE.row e;have h1:=hE.hunter;unfold Xj at h1;rw[h1]at hc;simp at hc
 have hk:Xb x.es[i].blk V w2:=(f5.mono (fun k hk=>.inl hk)).trans (r2.keeps.mono (fun k hk=>.inr hk))
 have hT:ToldAt w2 V.heap.size v t:=by
  refine⟨Xc f2.1 r2.keeps (fun k hk hx=> ?_),fun y hy=>Xc (f2.2 y hy) r2.keeps (fun k hk hx=> ?_)⟩
  ·have:=(f2.1.lt k hk).1;have:=hX1 k hx;omega
  ·have:=(World.ownsRow.lt (f2.2 y hy) k hk).1;have:=hX1 k hx;omega
 have he':ZN w2 ⟨x.es[i].hb,(Yv x.es[i].h bs).1,x.es[i].rb,(Yp x.es[i].s bs).1,cnt,v'⟩:=
  ⟨f4.keeps r2.keeps hnX,XmD _ _ hE.ok,r2.head,r2.row,r3,r4,hsf.1⟩
 have hprov:∀k,Ear.blk ⟨x.es[i].hb,(Yv x.es[i].h bs).1,x.es[i].rb,(Yp x.es[i].s bs).1,cnt,v'⟩ k→x.es[i].blk k∨V.heap.size≤k:=fun k hk=>by
  rcases hk with hk|hk|hk
  ·exact .inl (.inl hk)
  ·exact .inl (.inr (.inl hk))
  ·rcases r2.mine k hk with h1|h1
   ·exact .inl (.inr h1)
   ·exact .inr (Nat.le_trans f5.size h1)
 obtain⟨m1,m2⟩:=XkR h hi hk he' rfl rfl hprov hB;exact⟨_,m1,m2,rfl,rfl,hT,⟨Xw r2.told.1 f5.size,fun y hy=>Xw (r2.told.2 y hy) f5.size⟩,by rw[r1,f1,hsf.2],hk,hprov⟩
theorem XaA {w:World}{base:Nat}{f:Nat×List UInt8}{p:Option Addr}{cap:Nat}(h:Bytes w base f p cap)(N:Nat):
  (convert 28 9 (.slice p f.2.length cap)).run Tryz.prog (w.drewN N)=.ok (.string ⟨f.2.toArray⟩) (w.drewN N):=by
 have h1:XU (w.drewN N) p f.2:=by
  rcases h.2 with⟨hv,h0⟩|⟨g,cp,cur,hv,_,hg,_,_,_,ht⟩
  ·simp only[Value.slice.injEq]at hv;exact .inl ⟨hv.1,List.length_eq_zero_iff.1 h0⟩
  ·simp only[Value.slice.injEq]at hv;refine .inr ⟨g,0,hv.1,(Array.getElem?_eq_some_iff.1 hg).1,?_⟩;intro i hi;have hg2:(w.drewN N).heap[g]?=some (.cells cur 5 (0,0)):=hg;rw[Lib.cell_of_heap hg2];have h1:=congrArg (fun l=>l[i]?) ht;simp only[Nat.mul_one,List.getElem?_take_of_lt hi]at h1;rw[Nat.zero_add];have:cur[i]?=cur.toList[i]?:=by simp
   rw[this,h1];simp[Lib.byteCells,hi]
 exact h1.conv cap
theorem XhK {B wb M i cnt:Nat}{ss v vo v':Value}{t t2:Told}{x:Lw}{w V w1 w2:World}{bs:List Bool}(h:Yt B w wb ss x)(hsm:x.small M)(hM:M+bs.length≤200000000000)(hi:i<x.es.length)(hB:B≤w.heap.size)(hV:Below w.heap.size w V)
  (f1:t.map Prod.fst=(Yv x.es[i].h bs).2) (f2:ToldAt w1 V.heap.size v t) (fA:Apart t) (f4:Xj w1 x.es[i].hb (Yv x.es[i].h bs).1) (f5:Xb (· =x.es[i].hb) V w1)
  (r1:t2.map Prod.fst=(Yp x.es[i].s bs).2) (r2:RInv w1 (Xgd x.es[i]) x.es[i].rb w2 vo (Yp x.es[i].s bs).1.on cnt (Yp x.es[i].s bs).1.has v' t2) (r3:(Yp x.es[i].s bs).1.c=min cnt 7) (r4:IOk (Yp x.es[i].s bs).1)
  (rc:cnt≤x.es[i].cnt+bs.length) (rh:(Yp x.es[i].s bs).1.has.length≤x.es[i].s.has.length+bs.length):
  ToldAt w2 V.heap.size v t∧ToldAt w2 V.heap.size vo t2∧t2.map Prod.fst=t.map Prod.fst∧∀wr,Below w2.heap.size w2 wr→
   Calls Tryz.prog 70 #[.pointer (some ⟨wb,2,none⟩),v] wr fun e w'=>e=.returned (.tuple #[])∧Lfs x B wb ss (M+bs.length+1) w w':=by
 have hz:=hV.size;have hL:=h.later hV;have hmem:x.es[i]∈x.es:=List.getElem_mem hi;obtain⟨e',m1,m2,m3,m4,m5,m6,m7,m8,m9⟩:=Xjf hL hi (by omega) f1 f2 f4 f5 r1 r2 r3 r4;refine⟨m5,m6,m7,fun wr hwr=> ?_⟩;have hk:Xb (fun _=>False) w2 wr:=Xb.of hwr;have hT:ToldAt wr V.heap.size v t:=⟨Xc m5.1 hk (fun _ _=>id),fun y hy=>Xc (m5.2 y hy) hk (fun _ _=>id)⟩;have hlen:t.length=(Yv x.es[i].h bs).2.length:=by rw[← f1,List.length_map]
 have hz2:=m2.size;have hz3:=hwr.size;refine(Xjg (n:=bs.length) (M:=M) (m1.later hwr) (by show(x.es.set i e').length≤_;rw[List.length_set];exact hsm.es) hsm.eb hsm.ef hsm.el hsm.ei ?_ hT (fun k hk=>hL.bk.lt hk) fA (by rw[hlen];exact Xck _ _) ?_ hM (by omega) (by omega)).mono ?_
 ·intro e he;rcases List.mem_or_eq_of_mem_set he with he|rfl
  ·have:=hsm.ears e he;omega
  ·have:=hsm.ears _ hmem;rw[m3,m4];omega
 ·intro y hy;refine XhJ _ bs (h.ears _ hmem).ok y.1 ?_;rw[← f1];exact List.mem_map_of_mem hy
 ·rintro e w' ⟨rfl,x',k1,k2,k3,k4,k5,k6,k7⟩
  have hprov:∀k,Zg wb x' k→Zg wb x k∨w.heap.size≤k:=by
   have z1:=m8.size;rintro k (hq|hq|⟨e,he,hq⟩)
   ·exact .inl (.inl hq)
   ·rcases k7 k hq with h1|h1|h1
    ·exact .inl (.inr (.inl h1))
    ·exact .inr (by omega)
    ·exact .inr (by omega)
   ·rw[k6]at he;rcases List.mem_or_eq_of_mem_set he with he|rfl
    ·exact .inl (.inr (.inr ⟨e,he,hq⟩))
    ·rcases m9 k hq with h1|h1
     ·exact .inl (.inr (.inr ⟨_,hmem,h1⟩))
     ·exact .inr (by omega)
  refine⟨rfl,x',k1,k2,(((hV.mono hB).trans m2).trans (hwr.mono (by omega))).trans k3,?_,k5,hprov⟩;have z1:=m8.size;refine⟨k4.os.trans (hwr.os.trans (m8.os.trans hV.os)),k4.tape.trans (hwr.tape.trans (m8.tape.trans hV.tape)),k4.output.trans (hwr.output.trans (m8.output.trans hV.output)),by have:=k4.size;omega,fun k hk hx=> ?_⟩;rw[k4.block k (by omega) ?_,hwr.block k (by omega),m8.block k (by omega) (fun hq=>hx (.inr (.inr ⟨_,hmem,hq⟩))),hV.block k hk];rintro(q|q|q)
  ·exact hx (.inl q)
  ·exact hx (.inr (.inl q))
  ·omega
theorem Xns {w:World}{base n:Nat}{p:Option Addr}{cp:Nat}{xs:List Value}(h:w.ownsRow base 65 2 (.slice p n cp) n xs):∃bq:Bool,∀W:World,(binOp .eql 63 (.slice p n cp) (.slice none 0 0)).run Tryz.prog W=.ok (.bool bq) W:=by
 rcases h.2 with⟨hv,h0⟩|⟨g,cap,cur,hv,_⟩
 ·rw[hv];exact⟨true,Xbc⟩
 ·rw[hv];exact⟨false,fun W=>XdM W _ _ _⟩
theorem XkS {B wb M i:Nat}{ss:Value}{x:Lw}{w:World}{bs:List Bool}(h:Yt B w wb ss x)(hsm:x.small M)(hM:M+bs.length≤200000000000)(hB:B≤w.heap.size)(hi:i<x.es.length):
  Calls Tryz.prog 31 #[.pointer (some ⟨wb,0,none⟩),Jz x.es[i],.string ⟨(txt bs).toArray⟩] w fun e w'=>e=.returned (.bool true)∧Lfs x B wb ss (M+bs.length+1) w w':=by
 have hmem:x.es[i]∈x.es:=List.getElem_mem hi;have hE:=h.ears _ hmem;have hsE:=hsm.ears _ hmem;have hbl:x.es[i].hb<w.heap.size:=hE.hunter.lt;have HF:=hide fun(V:World) (hV:Below w.heap.size w V)=>XdK x.es[i].hb x.es[i].h bs V (hE.later hV).hunter hE.ok (by omega)
 have HR:=hide fun(V w1:World) (hV:Below w.heap.size w V) (hk:Xb (· =x.es[i].hb) V w1)=>Xia x.es[i].rb (Xgd x.es[i]) (.inl rfl) x.es[i].s x.es[i].cnt x.es[i].v bs w1
  ((hE.later hV).head.keeps hk (fun e=>by
   have h1:=hE.hunter;have h2:=hE.head;unfold Xj at h1;unfold Yh at h2;rw[e,h1]at h2;simp at h2)) (Xc (hE.later hV).row hk (fun k hk e=>by
   obtain⟨c,hc⟩:=Xd hE.row hk;have h1:=hE.hunter;unfold Xj at h1;rw[e,h1]at hc;simp at hc)) (fun k hk=>.inl (.inr hk)) hE.c hE.iok (by omega) (by omega) (by omega)
 have HB:=hide fun(V w1 w2:World) (v vo v':Value) (t t2:Told) (cnt:Nat)=>XhK (V:=V) (w1:=w1) (w2:=w2) (v:=v) (vo:=vo) (v':=v') (t:=t) (t2:=t2) (cnt:=cnt) (bs:=bs) h hsm hM hi hB
 unfold Jz;clear h hsm hE hsE hmem;generalize x.es[i].hb=hb at*;generalize x.es[i].rb=rb at*;generalize (⟨(txt bs).toArray⟩:ByteArray)=s at*;have hA0:=Xg w (.cells #[.pointer (some ⟨hb,0,none⟩),.pointer (some ⟨rb,0,none⟩)] 51);have hbA:=(Below.refl w.heap.size w).alloc (Nat.le_refl _) (.cells #[.pointer (some ⟨hb,0,none⟩),.pointer (some ⟨rb,0,none⟩)] 51);have hzA:=Xk w (.cells #[.pointer (some ⟨hb,0,none⟩),.pointer (some ⟨rb,0,none⟩)] 51);go_enter Tryz.func31,Tryz.ntmps31
 go_upto_region 1 with fail
 generalize hWA:w.alloc (.cells #[.pointer (some ⟨hb,0,none⟩),.pointer (some ⟨rb,0,none⟩)] 51)=WA at*;clear hWA;generalize hnB:w.heap.size=nB at*;have c0:WA.cell? ⟨nB,0,none⟩=some (.pointer (some ⟨hb,0,none⟩)):=by rw[Lib.cell_of_heap hA0];rfl
 have KF:=hide (Xa HF WA hbA);clear HF;go_wp2_with fail
 refine(Xa KF).mono ?_;rintro e w1 ⟨v,t,rfl,f1,f2,fA,f4,f5⟩;have hA1:=(f5.block nB (by omega) (by omega)).trans hA0;have c1:w1.cell? ⟨nB,1,none⟩=some (.pointer (some ⟨rb,0,none⟩)):=by rw[Lib.cell_of_heap hA1];rfl
 have KR:=hide (Xa HR WA w1 hbA f5);have HF1:=hide (And.intro f1 (And.intro f2 (And.intro fA (And.intro f4 f5))));clear HR KF c0 hA0 hA1 f1 f2 fA f4 f5;go_wp2_with fail
 refine(Xa KR).mono ?_;rintro e w2 ⟨vo,v',t2,cnt,rfl,r1,r2,r3,r4,rc,rh⟩;obtain⟨f1,f2,fA,f4,f5⟩:=Xa HF1;obtain⟨T1,T2,hmap,hK⟩:=Xa HB WA w1 w2 v vo v' t t2 cnt hbA f1 f2 fA f4 f5 r1 r2 r3 r4 rc rh;have hlen:t2.length=t.length:=by have:=congrArg List.length hmap;simpa using this
 have hbd:t.length≤200000000000:=by
  have e1:t.length=(Yv x.es[i].h bs).2.length:=by rw[← f1,List.length_map]
  have:=Xck x.es[i].h bs;omega
 have hme:∀k (h1:k<t.length) (h2:k<t2.length),t2[k].1=t[k].1:=by
  intro k h1 h2;have:=congrArg (fun l=>l[k]?) hmap;simpa[h1,h2]using this
 obtain⟨p,cp,rfl,hpg⟩:=Xf T1.1;obtain⟨q,cq,rfl,hqg⟩:=Xf T2.1;obtain⟨bq,hnn⟩:=Xns T1.1;have hn2:=hnn w2;have HK:=hide hK;have HT1:=hide T1;have HT2:=hide T2;have HME:=hide hme;clear HB HF1 f1 f2 fA f4 f5 r1 r2 r3 r4 rc rh T1 T2 hK hnn KR c1 hme hmap hbA;have hlI:((t2.length:Nat):Int)=(t.length:Int):=by omega
 rw[hlen]at hqg⊢;cases bq
 all_goals
  go_wp2
  go_loopw [11,12] (fun a b wr=>a=.bool true∧(∃ k:Nat,k≤t.length∧b=.int .i64 k)∧Below w2.heap.size w2 wr) (fun _ b _=>t.length -(intOf b).toNat)
  case atStart=>exact⟨rfl,⟨0,Nat.zero_le _,rfl⟩,Below.refl _ _⟩
  case round=>
   obtain⟨rfl,⟨k,hk,rfl⟩,hwr⟩:=hrel;by_cases hlt:k<t.length
   ·obtain ⟨g,rfl⟩:=hpg (by omega);obtain⟨g2,rfl⟩:=hqg (by omega);have hlt2:k<t2.length:=by omega
    have hkp:Xb (fun _=>False) w2 wr:=Xb.of hwr;have T1:ToldAt wr WA.heap.size (.slice (some ⟨g,0,none⟩) t.length cp) t:=⟨Xc (Xa HT1).1 hkp (fun _ _=>id),fun y hy=>Xc ((Xa HT1).2 y hy) hkp (fun _ _=>id)⟩;have T2:ToldAt wr WA.heap.size (.slice (some ⟨g2,0,none⟩) t2.length cq) t2:=⟨Xc (Xa HT2).1 hkp (fun _ _=>id),fun y hy=>Xc ((Xa HT2).2 y hy) hkp (fun _ _=>id)⟩;have e1:=Xdt t k hlt;have e2:=Xdt t2 k hlt2;have hq:=Xa HME k hlt hlt2;have a0:=World.ownsRow.cells T1.1 (g:=g) rfl (k*2) _ e1.1;have a1:=World.ownsRow.cells T1.1 (g:=g) rfl (k*2+1) _ e1.2;have b0:=World.ownsRow.cells T2.1 (g:=g2) rfl (k*2) _ e2.1;have b1:=World.ownsRow.cells T2.1 (g:=g2) rfl (k*2+1) _ e2.2;rw[Go.WideShapes.add_plain,Nat.zero_add]at a0 a1 b0 b1;have v1:=XaA (T1.2 _ (List.getElem_mem hlt));have v2:=XaA (T2.2 _ (List.getElem_mem hlt2));have HW:=hide hwr;clear e1 e2 T1 T2 hkp hwr;generalize t[k]=y at*;generalize t2[k]=y2 at*;obtain⟨f,pa,ca⟩:=y;obtain⟨f2,pb,cb⟩:=y2;simp only at hq;subst hq;obtain⟨kd,byt⟩:=f2;simp only at a0 a1 b0 b1 v1 v2;have hltI:(k:Int)<(t.length:Int):=by omega
    go_wp2_with fail
    go_quiet (fail)
    go_wp2
    go_roundw
    case rel=>exact⟨rfl,⟨k+1,hlt,by go_num⟩,below_drewN (Xa HW) _⟩
    case measure=>simp[intOf];omega
   ·have hkt:k=t.length:=by omega
    subst hkt;have KK:=hide (Xa HK wr hwr);clear HK hwr;go_wp2_with fail
    refine(Xa KK).mono ?_;rintro e w3 ⟨rfl,hL⟩;have HL:=hide hL;clear hL KK;go_wp2
    go_ret
    exact⟨rfl,Xa HL⟩
theorem XeZ {B wb M i:Nat}{ss:Value}{x:Lw}{w:World}{s:ByteArray}(h:Yt B w wb ss x)(hsm:x.small M)(hM:M+s.size≤200000000000)(hB:B≤w.heap.size)(hi:i<x.es.length):
  Calls Tryz.prog 31 #[.pointer (some ⟨wb,0,none⟩),Jz x.es[i],.string s] w fun e w'=>e=.returned (.bool true)∧Lfs x B wb ss (M+s.size+1) w w':=by
 by_cases hbt:J4 s
 ·obtain ⟨bs,e,hl⟩:=XhB s hbt;rw[← hl]at hM⊢;rw[e];exact XkS h hsm hM hB hi
 ·exact XkQ h hsm hM hB hi hbt
theorem sum_nil (cap:Nat)(w:World):
  Calls Tryz.prog 25 #[.slice none 0 cap] w fun e w'=>e=.returned (.int .i64 (ZQ []))∧w'=w:=by
 have h0:=XiK 65535 (by omega);have hs:ZQ []=0:=by decide
 rw[hs];go_enter Tryz.func25,Tryz.ntmps25
 go_wp2
 go_loop [3,9] (fun s i=>s=.int .u16 65535∧i=.int .i64 0) (fun _ _=>0)
 case atStart=>exact⟨rfl,rfl⟩
 case round=>
  obtain⟨rfl,rfl⟩:=hrel;go_wp2
  go_ret
  exact⟨congrArg (fun n=>Ending.returned (.int .i64 n)) (h0.trans (by decide)),rfl⟩
theorem Xox {w:World}{p:Option Addr}{l:List UInt8}(h:XU w p l)(cap:Nat)(hl:l.length≤maxLen):
  Calls Tryz.prog 25 #[.slice p l.length cap] w fun e w'=>e=.returned (.int .i64 (ZQ l))∧w'=w:=by
 rcases h with⟨rfl,rfl⟩|⟨b,off,rfl,_,hs⟩
 ·exact sum_nil cap w
 ·exact sum_any b off cap l w hl hs
theorem Xb1 {wb:Nat}{w:World}{o:OpV}{Q:World→Prop}(hQ:∀w',Below w.heap.size w w'→Q w')(hk:o.kind=1)(hlv:∃lp ln lc,o.lv=.slice lp ln lc)(hs:o.s.size≤1048576):
  Calls Tryz.prog 14 #[.pointer (some ⟨wb,0,none⟩),opV o] w fun e w'=>e=.returned (.bool true)∧Q w':=by
 have HE:=hide hQ;obtain⟨lp,ln,lc,hlv⟩:=hlv;obtain⟨kind,a,b,d,s,lv,⟨fa,fk,fp,fns,fnr,info⟩,fq,fc,x0,x1,x2,x3,x4,x5⟩:=o;simp only at hlv hk hs;subst hlv hk;unfold opV;simp only;clear hQ;have hA0:=Xg w (.cells #[.int .i64 1,.int .i64 a,.int .i64 b,.int .i64 d,.string s,.slice lp ln lc,.int .i64 fa,.int .i64 fk,.bool fp,.int .i64 fns,.int .i64 fnr,.slice fq info.length fc,.int .i64 x0,.int .i64 x1,.int .i64 x2,.int .i64 x3,.int .i64 x4,.int .i64 x5] 34);have hbA:=(Below.refl w.heap.size w).alloc (Nat.le_refl _) (.cells #[.int .i64 1,.int .i64 a,.int .i64 b,.int .i64 d,.string s,.slice lp ln lc,.int .i64 fa,.int .i64 fk,.bool fp,.int .i64 fns,.int .i64 fnr,.slice fq info.length fc,.int .i64 x0,.int .i64 x1,.int .i64 x2,.int .i64 x3,.int .i64 x4,.int .i64 x5] 34);have hzA:=Xk w (.cells #[.int .i64 1,.int .i64 a,.int .i64 b,.int .i64 d,.string s,.slice lp ln lc,.int .i64 fa,.int .i64 fk,.bool fp,.int .i64 fns,.int .i64 fnr,.slice fq info.length fc,.int .i64 x0,.int .i64 x1,.int .i64 x2,.int .i64 x3,.int .i64 x4,.int .i64 x5] 34);go_enter Tryz.func14,Tryz.ntmps14
 go_upto_region 1 with fail
 generalize hWA:w.alloc (.cells #[.int .i64 1,.int .i64 a,.int .i64 b,.int .i64 d,.string s,.slice lp ln lc,.int .i64 fa,.int .i64 fk,.bool fp,.int .i64 fns,.int .i64 fnr,.slice fq info.length fc,.int .i64 x0,.int .i64 x1,.int .i64 x2,.int .i64 x3,.int .i64 x4,.int .i64 x5] 34)=WA at*;clear hWA;generalize hnB:w.heap.size=nB at*;have y0:WA.cell? ⟨nB,0,none⟩=some (.int .i64 1):=by rw[Lib.cell_of_heap hA0];rfl
 have y1:WA.cell? ⟨nB,1,none⟩=some (.int .i64 a):=by rw[Lib.cell_of_heap hA0];rfl
 have y4:WA.cell? ⟨nB,4,none⟩=some (.string s):=by rw[Lib.cell_of_heap hA0];rfl
 have KL:=hide (Xac s a WA (by omega));go_wp2_with fail
 refine(Xa KL).mono ?_;rintro e W1 ⟨p,c,rfl,hl,hb1⟩;have hz1:=hb1.size;have hA1:=(hb1.block nB (by omega)).trans hA0;have hsl:s.data.toList.length=s.size:=by simp
 have ks:=Xox hl.src c (by unfold maxLen;omega);rw[hsl]at ks;have KS:=hide ks;clear KL ks y0 y1 y4 hA0;go_wp2_with fail
 refine(Xa KS).mono ?_;rintro e W2 ⟨rfl,rfl⟩;have y4:W2.cell? ⟨nB,4,none⟩=some (.string s):=by rw[Lib.cell_of_heap hA1];rfl
 have KW:=hide (JL hl (by omega));clear KS;go_wp2_with fail
 refine(Xa KW).mono ?_;rintro e W3 ⟨rfl,hk3,hk4⟩;have hb3:Below nB w W3:=(hbA.trans (hb1.mono (by omega))).trans (Zy hk3 (fun k hk=>by have:=(hk4 k hk).1;omega) (by omega));have hA3:=(hk3.block nB (by omega) (fun hk=>by have:=(hk4 nB hk).1;omega)).trans hA1;have z4:W3.cell? ⟨nB,4,none⟩=some (.string s):=by rw[Lib.cell_of_heap hA3];rfl
 have hcv:=Q8 W3 s;have hb4:=bytesWorld_below W3 s;have hsg:=ZC W3 s;generalize Lib.bytesWorld W3 5 s=W4 at*;have kr:=XbR W3.heap.size 0 (grownCap W3 s.size 0 5) s.data.toList W4 (by unfold maxLen;omega) hsg;rw[hsl]at kr;have KR:=hide kr;have HEND:=hide (Xa HE W4 (hb3.trans (hb4.mono (by have:=hb3.size;omega))));clear KW hk3 hk4 hb3 hA1 hA3 hl hsg hb4 hb1 hbA y4 kr HE;go_wp2_with fail
 refine(Xa KR).mono ?_;rintro e W5 ⟨rfl,rfl⟩;clear KR;go_wp2
 go_ret
 exact⟨rfl,Xa HEND⟩
def Lfa (x:Lw)(B:Nat)(wb:Nat)(ss:Value)(M:Nat)(w w':World):Prop:=
 ∃x':Lw,Yt B w' wb ss x'∧x'.small M∧Below B w w'∧Xb (fun k=>Zg wb x k∨x.hs.ownBlock=some k) w w'∧∀k,(Zg wb x' k∨x'.hs.ownBlock=some k)→(Zg wb x k∨x.hs.ownBlock=some k)∨w.heap.size≤k
def JU (hb rb:Nat):Ear:=⟨hb,fresh,rb,⟨false,0,[]⟩,0,.slice none 0 0⟩
theorem Xjo {B wb hb rb N:Nat}{ss hs':Value}{x:Lw}{W y:World}(h:Yt B W wb ss x)(hH:Xj W hb fresh)(hR:Yh W rb false 0 (.slice none 0 0))(h1:∀e∈x.es,¬e.blk hb)(h2:∀e∈x.es,¬e.blk rb)(hlo1:B≤hb)(hlo2:B≤rb)
  (hown:y.ownsRow 0 51 2 hs' (x.es.length+1) (Yf x.es++Yf [JU hb rb])) (hg:W.grownBy y x.hs.ownBlock) (hb':hs'.ownBlock=x.hs.ownBlock∨hs'.ownBlock=some N) (hN:B≤N) (hB:B≤W.heap.size):
  Yt B (y.setCell ⟨wb,0,none⟩ hs') wb ss ⟨hs',x.es++[JU hb rb],x.b⟩∧Below B W (y.setCell ⟨wb,0,none⟩ hs')∧Xb (fun k=>k=wb∨some k=x.hs.ownBlock) W (y.setCell ⟨wb,0,none⟩ hs'):=by
 have hG:=Xb.grown hg
 have hnot:∀ {k:Nat} {c:Array Value} {t:TypeId} {fz:Nat×Nat},W.heap[k]?=some (.cells c t fz)→t≠51→¬some k=x.hs.ownBlock:=by
  intro k c t fz hc ht hk;obtain⟨c2,hc2⟩:=Xd h.row hk.symm;rw[hc]at hc2;simp only[Option.some.injEq,Obj.cells.injEq]at hc2;exact ht hc2.2.1
 have hbk:YY y wb x.hs ss x.b:=h.bk.turned hG (hnot h.bk.head (by decide)) (fun k hk=>by
  obtain⟨c,t,hc,ht⟩:=h.bk.ty hk;refine hnot hc (fun e=> ?_);subst e;revert ht
  unfold ZW;decide)
 have kS:Xb (· =wb) y (y.setCell ⟨wb,0,none⟩ hs'):=(Xb.refl _ y).setB _ _
 have hwn:∀ {k:Nat} {c:Array Value} {t:TypeId} {fz:Nat×Nat},y.heap[k]?=some (.cells c t fz)→t≠45→¬k=wb:=by
  intro k c t fz hc ht hk;have h3:=hbk.head;unfold WAt at h3;rw[hk,h3]at hc;simp only[Option.some.injEq,Obj.cells.injEq]at hc;exact ht hc.2.1.symm
 have hE0:ZN W (JU hb rb):=⟨hH,XmH,hR,World.ownsRow_nil _ _ _ _,rfl,⟨by show 0≤7;omega,fun _=>rfl,fun e=>(by cases e)⟩,⟨rfl,rfl,(by show 0≤7;omega),(by simp[JU,fresh]),fun e=>(by cases e),fun _=>rfl⟩⟩
 have hturn:∀e,ZN W e→ZN (y.setCell ⟨wb,0,none⟩ hs') e:=by
  intro e he
  have he2:ZN y e:=he.turned hG (fun k hk=>by
   obtain⟨c,t,hc,ht⟩:=he.ty hk;refine hnot hc (fun e=> ?_);subst e;revert ht
   unfold QP;decide)
  refine he2.turned kS (fun k hk=> ?_);obtain⟨c,t,hc,ht⟩:=he2.ty hk;refine hwn hc (fun e=> ?_);subst e;revert ht
  unfold QP;decide
 have hhs:∀k,hs'.ownBlock=some k→B≤k:=by
  intro k hk;rcases hb' with e|e
  ·exact h.loH k (e▸hk)
  ·exact (Option.some.inj (e.symm.trans hk))▸hN
 have kA:Xb (fun k=>k=wb∨some k=x.hs.ownBlock) W (y.setCell ⟨wb,0,none⟩ hs'):=
  ⟨kS.os.trans hG.os,kS.tape.trans hG.tape,kS.output.trans hG.output,Nat.le_trans hG.size kS.size,fun k hk hx=>(kS.block k (Nat.lt_of_lt_of_le hk hG.size) (fun e=>hx (.inl e))).trans (hG.block k hk (fun e=>hx (.inr e)))⟩
 refine⟨⟨hbk.heads kS (by have:=hbk.head.set 0 hs';exact this),?_,?_,?_,h.lo,hhs,h.loB,?_⟩,?_,kA⟩
 ·show World.ownsRow _ 0 _ 2 hs' (x.es++[JU hb rb]).length (Yf (x.es++[JU hb rb]))
  rw[XdH,List.length_append];refine Xc hown kS (fun k hk=> ?_);obtain⟨c,hc⟩:=Xd hown hk;exact hwn hc (by decide)
 ·intro e he;rcases List.mem_append.1 he with he|he
  ·exact hturn e (h.ears e he)
  ·simp at he;subst he;exact hturn _ hE0
 ·refine List.pairwise_append.2 ⟨h.apart,List.pairwise_singleton _ _,?_⟩;intro e he f hf k hk hk2;simp at hf;subst hf;rcases hk2 with rfl|rfl|hk2
  ·exact h1 e he hk
  ·exact h2 e he hk
  ·cases hk2
 ·intro e he k hk;rcases List.mem_append.1 he with he|he
  ·exact h.loE e he k hk
  ·simp at he;subst he;rcases hk with rfl|rfl|hk
   ·exact hlo1
   ·exact hlo2
   ·cases hk
 ·exact (Zy hG (fun k hk=>h.loH k hk.symm) hB).trans (Zy kS (fun k hk=>hk▸h.lo) (Nat.le_trans hB hG.size))
theorem XhU {B wb:Nat}{ss:Value}{x:Lw}{W y:World}(h:Yt B W wb ss x)(hg:W.grownBy y x.hs.ownBlock):WAt y wb #[x.hs,ss,x.b.bs,x.b.fs,x.b.ls,x.b.is]:=by
 refine h.bk.head.keeps (Xb.grown hg) (fun hk=> ?_);obtain⟨c2,hc2⟩:=Xd h.row hk.symm;have h3:=h.bk.head;unfold WAt at h3;rw[hc2]at h3;simp at h3
theorem Xn9:(Tryz.prog.info? 51).map (fun i=>(i.zero,i.size,i.bytes))=some (some (.agg #[.pointer none,.pointer none]),2,16):=by kernel_rfl
theorem XoD (w:World):(zeroValue 72).run Tryz.prog w=.ok (.agg #[.bool false,.int .i64 0,.slice none 0 0]) w:=by kernel_rfl
theorem XaY {B wb M:Nat}{ss:Value}{x:Lw}{w:World}{o:OpV}(h:Yt B w wb ss x)(hsm:x.small M)(hM:M≤200000000000)(hB:B≤w.heap.size)(hk:o.kind=3)(hlv:∃lp ln lc,o.lv=.slice lp ln lc):
  Calls Tryz.prog 14 #[.pointer (some ⟨wb,0,none⟩),opV o] w fun e w'=>e=.returned (.bool true)∧Lfa x B wb ss (M+1) w w':=by
 obtain⟨lp,ln,lc,hlv⟩:=hlv;obtain⟨kind,a,b,d,s,lv,⟨fa,fk,fp,fns,fnr,info⟩,fq,fc,x0,x1,x2,x3,x4,x5⟩:=o;simp only at hlv hk;subst hlv hk;unfold opV;simp only;obtain⟨i0,hi,hy0,hy1,hy2⟩:=info_parts Xn9;have hzr:=XoD;have HX:=hide h;have hes:=hsm.es;have HSM:=hide hsm;clear h hsm;have hA0:=Xg w (.cells #[.int .i64 3,.int .i64 a,.int .i64 b,.int .i64 d,.string s,.slice lp ln lc,.int .i64 fa,.int .i64 fk,.bool fp,.int .i64 fns,.int .i64 fnr,.slice fq info.length fc,.int .i64 x0,.int .i64 x1,.int .i64 x2,.int .i64 x3,.int .i64 x4,.int .i64 x5] 34);have hbA:=(Below.refl w.heap.size w).alloc (Nat.le_refl _) (.cells #[.int .i64 3,.int .i64 a,.int .i64 b,.int .i64 d,.string s,.slice lp ln lc,.int .i64 fa,.int .i64 fk,.bool fp,.int .i64 fns,.int .i64 fnr,.slice fq info.length fc,.int .i64 x0,.int .i64 x1,.int .i64 x2,.int .i64 x3,.int .i64 x4,.int .i64 x5] 34);have hzA:=Xk w (.cells #[.int .i64 3,.int .i64 a,.int .i64 b,.int .i64 d,.string s,.slice lp ln lc,.int .i64 fa,.int .i64 fk,.bool fp,.int .i64 fns,.int .i64 fnr,.slice fq info.length fc,.int .i64 x0,.int .i64 x1,.int .i64 x2,.int .i64 x3,.int .i64 x4,.int .i64 x5] 34);go_enter Tryz.func14,Tryz.ntmps14
 go_upto_region 1 with fail
 generalize hWA:w.alloc (.cells #[.int .i64 3,.int .i64 a,.int .i64 b,.int .i64 d,.string s,.slice lp ln lc,.int .i64 fa,.int .i64 fk,.bool fp,.int .i64 fns,.int .i64 fnr,.slice fq info.length fc,.int .i64 x0,.int .i64 x1,.int .i64 x2,.int .i64 x3,.int .i64 x4,.int .i64 x5] 34)=WA at*;clear hWA;generalize hnB:w.heap.size=nB at*;have y0:WA.cell? ⟨nB,0,none⟩=some (.int .i64 3):=by rw[Lib.cell_of_heap hA0];rfl
 generalize hnA:WA.heap.size=nA at*;have hlA:nB<nA:=by omega
 have kl:=XfE WA;rw[hnA]at kl;have KL:=hide kl;clear kl hzA;go_wp2_with fail
 refine(Xa KL).mono ?_;rintro e W1 ⟨rfl,hH,hb1⟩;have hz1:=hb1.size;rw[hnA]at hz1;have hlt1:=hH.lt;have hb01:Below nB w W1:=hbA.trans (hb1.mono (by omega));have hX1:=(Xa HX).later (w':=W1) (by rw[hnB];exact hb01);have d0:=hX1.bk.head.cell 0 _ rfl
 -- the world as the append finds it
 have hbR:=(Below.refl W1.heap.size W1).alloc (Nat.le_refl _) (.cells #[.bool false,.int .i64 0,.slice none 0 0] 72);have hR1:=Xg W1 (.cells #[.bool false,.int .i64 0,.slice none 0 0] 72);have hzR:=Xk W1 (.cells #[.bool false,.int .i64 0,.slice none 0 0] 72);have hbE:=hbR.alloc (by rw[hzR];omega) (.cells #[.pointer (some ⟨nA,0,none⟩),.pointer (some ⟨W1.heap.size,0,none⟩)] 51);have hX2:=hX1.later hbE;have hH2:Xj ((W1.alloc (.cells #[.bool false,.int .i64 0,.slice none 0 0] 72)).alloc (.cells #[.pointer (some ⟨nA,0,none⟩),.pointer (some ⟨W1.heap.size,0,none⟩)] 51)) nA fresh:=(hbE.block _ hlt1).trans hH
 have hR2:Yh ((W1.alloc (.cells #[.bool false,.int .i64 0,.slice none 0 0] 72)).alloc (.cells #[.pointer (some ⟨nA,0,none⟩),.pointer (some ⟨W1.heap.size,0,none⟩)] 51)) W1.heap.size false 0 (.slice none 0 0):=by
  have q:=(Below.refl (W1.alloc (.cells #[.bool false,.int .i64 0,.slice none 0 0] 72)).heap.size (W1.alloc (.cells #[.bool false,.int .i64 0,.slice none 0 0] 72))).alloc (Nat.le_refl _) (.cells #[.pointer (some ⟨nA,0,none⟩),.pointer (some ⟨W1.heap.size,0,none⟩)] 51);exact(q.block _ (by rw[hzR];omega)).trans hR1
 have hzE:=Xk (W1.alloc (.cells #[.bool false,.int .i64 0,.slice none 0 0] 72)) (.cells #[.pointer (some ⟨nA,0,none⟩),.pointer (some ⟨W1.heap.size,0,none⟩)] 51);have HX2:=hide hX2;have HH2:=hide hH2;have HR2:=hide hR2;have hlts:∀e∈x.es,∀k,e.blk k→k<nB:=fun e he k hk=>hnB▸((Xa HX).ears e he).lt hk
 have HLT:=hide hlts;have HB01:=hide hb01;have HBE:=hide hbE;obtain⟨hp,hc,hhs,_⟩:=Xf hX1.row;rw[hhs]at d0;have hrw:=hX2.row;rw[hhs]at hrw;have HROW:=hide hrw;clear hrw hX1 hX2 hH2 hR2 hlts hb01 hbE KL y0 hA0 hbA hb1 hH hbR hR1;go_wp2_with (at_builtin;go_loud (refine wpList_append_own_at _ rfl _ _ 36 rfl 0 51 i0 _ 2 16 Tryz.underlying36 hi hy0 hy1 hy2 rfl (by decide) _ _ _ rfl (Xa HROW) ⟨W1.heap.size+1,0,none⟩ 1 1 (Yf [JU nA W1.heap.size]) rfl rfl ?p0c1 ?p0c2 ?p0c3 ?p0c4 ?p0c5 ?_))
 case p0c1=>first|(have q:=QS (W1.alloc (.cells #[.bool false,.int .i64 0,.slice none 0 0] 72)) (Yf [JU nA W1.heap.size]) 51;rw[hzR]at q;exact q)|exact fun j u hj=>hj
 case p0c2=>intro u hu;simp[Yf,JU]at hu;rcases hu with rfl|rfl <;> rfl
 case p0c3=>unfold maxLen;omega
 case p0c4=>omega
 case p0c5=>exact Nat.zero_le _
 intro b0 y hown hg _ hb0;obtain⟨bp,bc,rfl,_⟩:=Xf hown;have hg2:World.grownBy ((W1.alloc (.cells #[.bool false,.int .i64 0,.slice none 0 0] 72)).alloc (.cells #[.pointer (some ⟨nA,0,none⟩),.pointer (some ⟨W1.heap.size,0,none⟩)] 51)) y x.hs.ownBlock:=by rw[hhs];exact hg
 have hb2:(Value.slice bp (x.es.length+1) bc).ownBlock=x.hs.ownBlock∨(Value.slice bp (x.es.length+1) bc).ownBlock=some (W1.heap.size+1+1):=by rw[hhs];exact hb0
 obtain⟨q1,q2,q3⟩:=Xjo (Xa HX2) (Xa HH2) (Xa HR2) (fun e he hk=>by have:=Xa HLT e he _ hk;omega) (fun e he hk=>by have:=Xa HLT e he _ hk;omega) (by omega) (by omega) hown hg2 hb2 (by omega) (by rw[hzE,hzR];omega);have hd:=XhU (Xa HX2) hg2;have d1:=hd.cell 0 _ rfl;have f1:=hd.fz
 have HE:Hid (Lfa x B wb ss (M+1) w (y.setCell ⟨wb,0,none⟩ (.slice bp (x.es.length+1) bc))):=by
  refine⟨_,q1,?_,((Xa HB01).mono hB).trans (((Xa HBE).mono (by omega)).trans q2),?_,?_⟩;rotate_left
  ·have kb:Below nB w _:=(Xa HB01).trans ((Xa HBE).mono (by omega));refine(Xb.of (by rw[hnB];exact kb)).trans (q3.mono (fun k hk=> ?_));rcases hk with hk|hk
   ·exact .inl (.inl hk)
   ·exact .inr hk.symm
  ·rintro k ((hk|hk|⟨e,he,hk⟩)|hk)
   ·exact .inl (.inl (.inl hk))
   ·exact .inl (.inl (.inr (.inl hk)))
   ·rcases List.mem_append.1 he with he|he
    ·exact .inl (.inl (.inr (.inr ⟨e,he,hk⟩)))
    ·simp at he;subst he;rcases hk with hk|hk|hk
     ·have hk':k=nA:=hk;exact .inr (by omega)
     ·have hk':k=W1.heap.size:=hk;exact .inr (by omega)
     ·cases hk
   ·rcases hb2 with e|e
    ·exact .inl (.inr (e.symm.trans hk))
    ·have:=Option.some.inj (e.symm.trans hk);exact .inr (by omega)
  have hs:=Xa HSM;refine⟨by simp;omega,by have:=hs.eb;show x.b.eb.length≤_;omega,by have:=hs.ef;show x.b.ef.length≤_;omega,by have:=hs.el;show x.b.el.length≤_;omega,by have:=hs.ei;show x.b.ei.length≤_;omega,?_⟩;intro e he;rcases List.mem_append.1 he with he|he
  ·have:=hs.ears e he;omega
  ·simp at he;subst he;exact⟨Nat.zero_le _,Nat.zero_le _⟩
 clear q1 q2 q3 hd hown hg hg2 hb0 hb2 HX2 HH2 HR2 HROW HB01 HBE HLT HSM HX d0;go_wp2
 go_ret
 exact⟨rfl,Xa HE⟩
theorem Xh1 (n x j:Nat)(h:j<n):(Y7 n x)[j]'(by rw[ZU];exact h)=(x / 2 ^ j%2==1):=by
 induction n generalizing x j with
 |zero=>omega
 |succ n ih=>
  rcases j with _|j
  ·simp[Y7]
  ·simp only[Y7,List.getElem_cons_succ];rw[ih (x / 2) j (by omega),Nat.div_div_eq_div_mul,Nat.pow_succ,Nat.mul_comm 2]
theorem Xlm (l:List UInt8)(j:Nat)(h:j<8*l.length):(XH l)[j]'(by rw[YD];exact h)=((l.getD (j / 8) 0).toNat / 2 ^ (j%8)%2==1):=by
 induction l generalizing j with
 |nil=>simp at h
 |cons x r ih=>
  simp only[XH];by_cases h8:j<8
  ·rw[List.getElem_append_left (by rw[ZU];exact h8),Xh1 8 x.toNat j h8];have e1:j / 8=0:=by omega
   have e2:j%8=j:=by omega
   rw[e1,e2];simp
  ·rw[List.getElem_append_right (by rw[ZU];omega)];simp only[ZU];rw[ih (j-8) (by simp at h;omega)];have e1:j / 8=(j-8) / 8+1:=by omega
   have e2:j%8=(j-8)%8:=by omega
   rw[e1,e2];simp
theorem Xmq (y k:Nat):(((y:Int) / 2 ^ k).tmod 2==1)=(y / 2 ^ k%2==1):=by
 have e:((y:Int) / 2 ^ k)=((y / 2 ^ k:Nat):Int):=by simp
 rw[e];have e2:(((y / 2 ^ k:Nat):Int)).tmod 2=((y / 2 ^ k%2:Nat):Int):=rfl;rw[e2];generalize y / 2 ^ k%2=z;by_cases h:z=1
 ·simp[h]
 ·have h2:((z:Int)==1)=false:=beq_eq_false_iff_ne.2 (by omega);have h3:(z==1)=false:=beq_eq_false_iff_ne.2 h;rw[h2,h3]
theorem XcQ (a:List Bool)(b:Bool):(⟨(txt a).toArray⟩++⟨#[chr b]⟩:ByteArray)=⟨(txt (a++[b])).toArray⟩:=XeL a [b]
theorem XcB (fs:List (List UInt8))(h:∀f∈fs,f.length≤64):(Jt fs).length≤1064*fs.length+8:=by
 have:=Xbr fs h;simp[Jt,QQ];omega
theorem Xj2 (f:List UInt8):Lib.byteCells (Y4 f)=[.int .u8 ((ZQ f:Int)%256),.int .u8 ((ZQ f:Int) / 256)]:=by
 have h:=XbA f;simp[Lib.byteCells,Y4];omega
theorem Xg7 (fb fo cap:Nat)(fs:List (List UInt8))(w:World)(hn:fs.length≤1048576)(hfb:fb<w.heap.size)(hF:Ju w fb fo fs)(hlen:∀f∈fs,2≤f.length∧f.length≤64):
  Calls Tryz.prog 30 #[.slice (some ⟨fb,fo,none⟩) fs.length cap] w fun e w'=>e=.returned (.tuple #[.string ⟨(txt (Jt fs)).toArray⟩,.int .i64 0])∧Below w.heap.size w w':=by
 obtain⟨i0,hi,hz0,hz1,hz2⟩:=info_parts infoByte;go_enter Tryz.func30,Tryz.ntmps30
 go_wp2
 go_loop [4] (fun i=>∃k:Nat,k≤fs.length∧i=.int .i64 k) (fun i=>fs.length -(intOf i).toNat)
 case atStart=>exact⟨0,Nat.zero_le _,rfl⟩
 case round=>
  obtain⟨k,hk,rfl⟩:=hrel;by_cases hlt:k<fs.length
  ·obtain ⟨b,off,cap',hcell,_,_⟩:=hF k hlt;have hfl:=hlen (fs.getD k []) (by simp[List.getD,hlt]);generalize fs.getD k []=f at hcell hfl;obtain⟨hf1,hf2⟩:=hfl;have g1:¬((f.length:Int)<2):=by omega
   have g2:¬((64:Int)<(f.length:Int)):=by omega
   go_wp2
   go_round
   case rel=>exact⟨k+1,by omega,by go_num⟩
   case measure=>simp[intOf];omega
  ·go_wp2
   go_loopw [5,6] (fun s i wr=>∃(k:Nat) (acc:List Bool),k≤fs.length∧i=.int .i64 k∧s=.string ⟨(txt acc).toArray⟩∧Below w.heap.size w wr∧acc++Qd (fs.drop k)=Jt fs) (fun _ i _=>fs.length -(intOf i).toNat)
   case atStart=>exact⟨0,QQ,Nat.zero_le _,rfl,rfl,Below.refl _ _,rfl⟩
   case round=>
    obtain⟨k,acc,hk,rfl,rfl,hbw,hacc⟩:=hrel;by_cases hlt:k<fs.length
    ·obtain ⟨b,off,cap',hcell,hbl,hseg⟩:=hF.below hbw (Nat.le_refl _) hfb k hlt;have hfl:=hlen (fs.getD k []) (by simp[List.getD,hlt]);have hdrop:fs.drop k=fs.getD k []::fs.drop (k+1):=by rw[List.drop_eq_getElem_cons hlt];simp[List.getD,hlt]
     generalize fs.getD k []=f at hcell hfl hdrop hseg;rw[hdrop]at hacc;simp only[Qd]at hacc;have HA:=hide hacc
     have HWL:Hid (acc.length+(Jg f).length≤1115693064):=by
      show _≤_
      have q:=congrArg List.length hacc;have q2:=XcB fs (fun f hf=>(hlen f hf).2);simp at q;omega
     clear hacc hdrop;obtain⟨hf1,hf2⟩:=hfl;have hsm:=XbR b off cap' f wr (by unfold maxLen;omega) hseg;have HS:=hide hsm;clear hsm;go_wp2_with fail
     refine(Xa HS).mono ?_;rintro e W1 ⟨rfl,hW1⟩;subst hW1;clear HS;have hown0:W1.ownsRow w.heap.size 5 1 (.slice none 0 0) 0 []:=World.ownsRow_nil _ _ _ _;have hbz:=hbw.size;go_wp2_with (at_builtin;refine wpList_append_own _ rfl _ _ 28 rfl w.heap.size 5 i0 _ 1 1 Tryz.underlying28 hi hz0 hz1 hz2 rfl (by decide) _ _ _ rfl hown0 ⟨b,off,none⟩ f.length cap' (Lib.byteCells f) rfl (by simp[Lib.byteCells]) ?ac1 ?ac2 ?ac3 ?ac4 ?ac5 ?_)
     case ac1=>exact hseg.news
     case ac2=>exact byteCells_one f
     case ac3=>unfold maxLen;omega
     case ac4=>omega
     case ac5=>exact hbz
     intro v1 w1 hown1 hg1 _;have hb1:Below w.heap.size w w1:=hbw.grown hg1 hbz (fun k hk=>by simp[Value.ownBlock]at hk);obtain⟨g1,cp1,rfl,_⟩:=Xhb hown1 rfl (by omega);have HB1:=hide hb1;have HO1:=hide (hown1.alloc (.cells #[.int .u8 ((ZQ f:Int)%256),.int .u8 ((ZQ f:Int) / 256)] 5));have hbz1:=hb1.size;have hsl:=XbA f;clear hown1 hg1 hb1 hown0;go_wp2_with (at_builtin;refine wpList_append_own _ rfl _ _ 28 rfl w.heap.size 5 i0 _ 1 1 Tryz.underlying28 hi hz0 hz1 hz2 rfl (by decide) _ _ _ rfl (Xa HO1) ⟨w1.heap.size,0,none⟩ 2 2 [.int .u8 ((ZQ f:Int)%256),.int .u8 ((ZQ f:Int) / 256)] rfl rfl ?bc1 ?bc2 ?bc3 ?bc4 ?bc5 ?_)
     case bc1=>exact XjB w1 _ _ _
     case bc2=>intro u hu;simp at hu;rcases hu with rfl|rfl <;> rfl
     case bc3=>unfold maxLen;omega
     case bc4=>omega
     case bc5=>rw[Xk];omega
     intro v2 w2 hown2 hg2 _;have hrow:w.heap.size≤g1:=((Xa HO1).lt g1 rfl).1;have hb2:Below w.heap.size w w2:=((Xa HB1).alloc hbz1 _).grown hg2 (by rw[Xk];omega) (fun k hk=>by simp[Value.ownBlock]at hk;omega);rw[← Xj2,←Lib.byteCells_append]at hown2;have hal:(f++Y4 f).length=f.length+2:=by simp[Y4]
     obtain⟨g2,cp2,rfl,hsg2⟩:=Xhb hown2 hal.symm (by omega);have hbz2:=hb2.size;have HB2:=hide hb2;have HL:=hide hal;have HFR:Hid (Jg f=YX 0 (XH (f++Y4 f))):=by show Jg f=_;rw[Xaw];rfl
     clear hown2 hg2 hb2 HO1 hal hrow;generalize f++Y4 f=al at hsg2 HL HFR;have hal66:al.length≤66:=by rw[HL.out];omega
     go_wp2
     go_loop [5,9,10] (fun s o i=>∃(j n:Nat) (ac:List Bool),j≤8*al.length∧n≤4∧i=.int .i64 j∧o=.int .i64 n∧s=.string ⟨(txt ac).toArray⟩∧ac++YX n ((XH al).drop j)=acc++Jg f) (fun _ _ i=>8*al.length -(intOf i).toNat)
     case atStart=>exact⟨0,0,acc,Nat.zero_le _,Nat.zero_le _,rfl,rfl,rfl,by rw[HFR.out];rfl⟩
     case round=>
      obtain⟨j,n,ac,hj,hn4,rfl,rfl,rfl,hac⟩:=hrel;have hlI:((f.length:Int)+2)=(al.length:Int):=by have:=HL.out;omega
      have hlN:f.length+2=al.length:=by have:=HL.out;omega
      have HAC:=hide hac;clear hac;by_cases hjl:j<8*al.length
      ·have hcl:=hsg2 (j / 8) (by omega);rw[Nat.zero_add]at hcl
       have hdr:Hid ((XH al).drop j=((al.getD (j / 8) 0).toNat / 2 ^ (j%8)%2==1)::(XH al).drop (j+1)):=by
        show _=_
        rw[List.drop_eq_getElem_cons (by rw[YD];exact hjl),Xlm al j hjl]
       generalize al.getD (j / 8) 0=y at hcl hdr;have hy:=y.toNat_lt;have hbf:=Xmq y.toNat (j%8);have hlA:¬9223372036854775807<(txt ac).length+1:=by rw[Y5];have:=congrArg List.length HAC.out;have:=HWL.out;simp at *;omega
       have hlB:¬9223372036854775807<(txt ac).length+1+1:=by rw[Y5];have:=congrArg List.length HAC.out;have:=HWL.out;simp at *;omega
       have hbit:=hbf;generalize (y.toNat / 2 ^ (j%8)%2==1)=bit at hbit hdr;clear hbf;cases bit
       ·go_wp2
        go_round
        case rel=>
         have q:=HAC.out;rw[hdr.out,YX]at q;exact⟨j+1,0,ac++[false],hjl,Nat.zero_le _,by go_num,rfl,congrArg Value.string (XcQ ac false),by simpa using q⟩
        case measure=>simp[intOf];omega
       ·by_cases h4:n=4
        ·subst h4;go_wp2
         go_round
         case rel=>
          have q:=HAC.out;rw[hdr.out,YX]at q;exact⟨j+1,0,ac++[true]++[false],hjl,Nat.zero_le _,by go_num,rfl,congrArg Value.string (by rw[← XcQ,←XcQ];rfl),by simpa using q⟩
         case measure=>simp[intOf];omega
        ·have g5:((n:Int)+1==5)=false:=by simp;omega
         go_wp2
         go_round
         case rel=>
          have q:=HAC.out;rw[hdr.out,YX,if_neg (by omega)]at q;exact⟨j+1,n+1,ac++[true],hjl,by omega,by go_num,by go_num,congrArg Value.string (XcQ ac true),by simpa using q⟩
         case measure=>simp[intOf];omega
      ·have hd:(XH al).drop j=[]:=List.drop_eq_nil_of_le (by rw[YD];omega);have q:=HAC.out;rw[hd]at q;simp only[YX,List.append_nil]at q;have HQ:=hide q;have hlC:¬9223372036854775807<(txt ac).length+8:=by rw[Y5];have:=congrArg List.length q;have:=HWL.out;simp at *;omega
       clear q hd HAC;go_wp2
       go_roundw
       case rel=>
        have q:=Xa HQ;have q2:=Xa HA;refine⟨k+1,ac++QQ,hlt,by go_num,congrArg Value.string (XeL ac QQ),Xa HB2,?_⟩;rw[← q2,q];simp
       case measure=>simp[intOf];omega
    ·have hd:fs.drop k=[]:=List.drop_eq_nil_of_le (by omega);rw[hd]at hacc;simp only[Qd,List.append_nil]at hacc;have HA:=hide hacc;clear hacc hd;go_wp2
     go_ret2
     exact⟨by rw[Xa HA];rfl,hbw⟩
def Xdu (w:World)(fb fo:Nat)(ls:List Nat):Prop:=∀i,i<ls.length→∃p cap,w.cell? ⟨fb,fo+i,none⟩=some (.slice p (ls.getD i 0) cap)
def good (n:Nat):Bool:=decide (2≤n∧n≤64)
theorem Xh8 (fb fo cap:Nat)(ls:List Nat)(w:World)(hn:ls.length≤1048576)(hF:Xdu w fb fo ls)(hbad:ls.all good=false)(hsm:∀n∈ls,n≤maxLen):
  Calls Tryz.prog 30 #[.slice (some ⟨fb,fo,none⟩) ls.length cap] w fun e w'=>e=.returned (.tuple #[.string ⟨#[]⟩,.int .i64 1])∧w'=w:=by
 unfold maxLen at hsm;go_enter Tryz.func30,Tryz.ntmps30
 go_wp2
 go_loop [4] (fun i=>∃k:Nat,k≤ls.length∧i=.int .i64 k∧(ls.drop k).all good=false) (fun i=>ls.length -(intOf i).toNat)
 case atStart=>exact⟨0,Nat.zero_le _,rfl,hbad⟩
 case round=>
  obtain⟨k,hk,rfl,hb⟩:=hrel;by_cases hlt:k<ls.length
  ·obtain ⟨p,cap',hcell⟩:=hF k hlt;have hd:ls.drop k=ls.getD k 0::ls.drop (k+1):=by rw[List.drop_eq_getElem_cons hlt];simp[List.getD,hlt]
   have hm:=hsm (ls.getD k 0) (by simp[List.getD,hlt]);generalize ls.getD k 0=n at hcell hd hm;rw[hd]at hb;have HB:=hide hb;clear hb hd;by_cases h2:n<2
   ·have g1:(n:Int)<2:=by omega
    go_wp2
    go_ret2
    exact⟨rfl,rfl⟩
   ·have g1:¬((n:Int)<2):=by omega
    by_cases h64:64<n
    ·have g2:(64:Int)<(n:Int):=by omega
     go_wp2
     go_ret2
     exact⟨rfl,rfl⟩
    ·have g2:¬((64:Int)<(n:Int)):=by omega
     go_wp2
     go_round
     case rel=>
      refine⟨k+1,by omega,by go_num,?_⟩;have q:=Xa HB;have e:good n=true:=by simp[good];omega
      simpa[e]using q
     case measure=>simp[intOf];omega
  ·have hd:ls.drop k=[]:=List.drop_eq_nil_of_le (by omega);rw[hd]at hb;simp at hb
theorem Xmr (fb fo cap:Nat)(ls:List Nat)(w:World)(hn:ls.length≤1048576)(hF:Xdu w fb fo ls)(hbad:ls.all good=false)(hsm:∀n∈ls,n≤maxLen):
  Calls Tryz.prog 29 #[.slice (some ⟨fb,fo,none⟩) ls.length cap] w fun e w'=>e=.returned (.tuple #[.string ⟨#[]⟩,.int .i64 1])∧Below w.heap.size w w':=by
 unfold maxLen at hsm;go_enter Tryz.func29,Tryz.ntmps29
 go_wp2
 go_loop [11] (fun i=>∃k:Nat,k≤ls.length∧i=.int .i64 k∧(ls.drop k).all good=false) (fun i=>ls.length -(intOf i).toNat)
 case atStart=>exact⟨0,Nat.zero_le _,rfl,hbad⟩
 case round=>
  obtain⟨k,hk,rfl,hb⟩:=hrel;by_cases hlt:k<ls.length
  ·obtain ⟨p,cap',hcell⟩:=hF k hlt;have hd:ls.drop k=ls.getD k 0::ls.drop (k+1):=by rw[List.drop_eq_getElem_cons hlt];simp[List.getD,hlt]
   have hm:=hsm (ls.getD k 0) (by simp[List.getD,hlt]);generalize ls.getD k 0=n at hcell hd hm;rw[hd]at hb;have HB:=hide hb;clear hb hd;by_cases h2:n<2
   ·have g1:(n:Int)<2:=by omega
    go_wp2
    go_ret2
    exact⟨rfl,Below.refl _ _⟩
   ·have g1:¬((n:Int)<2):=by omega
    by_cases h64:64<n
    ·have g2:(64:Int)<(n:Int):=by omega
     go_wp2
     go_ret2
     exact⟨rfl,Below.refl _ _⟩
    ·have g2:¬((64:Int)<(n:Int)):=by omega
     go_wp2
     go_round
     case rel=>
      refine⟨k+1,by omega,by go_num,?_⟩;have q:=Xa HB;have e:good n=true:=by simp[good];omega
      simpa[e]using q
     case measure=>simp[intOf];omega
  ·have hd:ls.drop k=[]:=List.drop_eq_nil_of_le (by omega);rw[hd]at hb;simp at hb
theorem Xg6 (p:Option Addr)(cap:Nat)(w:World):
  Calls Tryz.prog 30 #[.slice p 0 cap] w fun e w'=>e=.returned (.tuple #[.string ⟨(txt (Jt [])).toArray⟩,.int .i64 0])∧Below w.heap.size w w':=by
 have hwl:(⟨(txt (Jt [])).toArray⟩:ByteArray)=⟨#[48,49,49,49,49,49,49,48]⟩:=by decide
 rw[hwl];go_enter Tryz.func30,Tryz.ntmps30
 go_wp2
 go_loop [4] (fun i=>i=.int .i64 0) (fun _=>0)
 case atStart=>rfl
 case round=>
  subst hrel;go_wp2
  go_loop [5,6] (fun s i=>s=.string ⟨#[48,49,49,49,49,49,49,48]⟩∧i=.int .i64 0) (fun _ _=>0)
  case atStart=>exact⟨rfl,rfl⟩
  case round=>
   obtain⟨rfl,rfl⟩:=hrel;go_wp2
   go_ret2
   exact⟨rfl,Below.refl _ _⟩
def Qo (w:World)(p:Option Addr)(ls:List ByteArray):Prop:=ls=[]∨∃b off,p=some ⟨b,off,none⟩∧b<w.heap.size∧∀i (h:i<ls.length),w.cell? ⟨b,off+i,none⟩=some (.string ls[i])
theorem Qo.below {w w':World}{p:Option Addr}{ls:List ByteArray}(h:Qo w p ls){B:Nat}(hb:Below B w w')(hB:w.heap.size≤B):Qo w' p ls:=by
 rcases h with h|⟨b,off,e,hl,h⟩
 ·exact .inl h
 ·refine .inr ⟨b,off,e,Nat.lt_of_lt_of_le hl hb.size,fun i hi=> ?_⟩;rw[hb.cell (p:=⟨b,off+i,none⟩) (by show b<B;omega)];exact h i hi
def Xah (ls:List ByteArray):ByteArray:=if(ls.map ByteArray.size).all good then⟨(txt (Jt (ls.map fun s=>s.data.toList))).toArray⟩else⟨#[]⟩
def Xa9 (ls:List ByteArray):Int:=if(ls.map ByteArray.size).all good then 0 else 1
theorem XbM {ls:List ByteArray}(h:(ls.map ByteArray.size).all good=true):∀f∈ls.map (fun s=>s.data.toList),2≤f.length∧f.length≤64:=by
 intro f hf;obtain⟨s,hs,rfl⟩:=List.mem_map.1 hf;have:=List.all_eq_true.1 h s.size (List.mem_map_of_mem hs);unfold good at this;simpa using this
theorem XiY (ls:List ByteArray):(Xah ls).size≤1064*ls.length+8:=by
 unfold Xah;split
 ·rename_i h
  have:=XcB (ls.map fun s=>s.data.toList) (fun f hf=>(XbM h f hf).2);rw[List.length_map]at this;show(txt _).toArray.size≤_
  rw[List.size_toArray,Y5];exact this
 ·exact Nat.zero_le _
def ByR (w:World)(g:Nat)(s:ByteArray):Prop:=(∃ c fz,w.heap[g]?=some (.cells c 5 fz))∧Seg w g 0 s.data.toList
theorem ByR.keeps {X:Nat→Prop}{w w':World}{g:Nat}{s:ByteArray}(h:ByR w g s)(hk:Xb X w w')(hx:¬X g):ByR w' g s:=by
 obtain⟨⟨c,fz,hc⟩,hs⟩:=h;have hl:=(Array.getElem?_eq_some_iff.1 hc).1;refine⟨⟨c,fz,(hk.block g hl hx).trans hc⟩,fun i hi=> ?_⟩;rw[hk.cell (p:=⟨g,0+i,none⟩) hl hx];exact hs i hi
theorem ByR.lt {w:World}{g:Nat}{s:ByteArray}(h:ByR w g s):g<w.heap.size:=by
 obtain⟨⟨c,fz,hc⟩,_⟩:=h;exact(Array.getElem?_eq_some_iff.1 hc).1
theorem Ye.keeps {X:Nat→Prop}{w w':World}{B:Nat}{p:Option Addr}{c:Nat}{s:ByteArray}(h:Ye w B p c s)(hk:Xb X w w')(hx:∀a,p=some a→¬X a.block):Ye w' B p c s:=by
 rcases h with h|⟨g,h1,h2,h3,h4⟩
 ·exact .inl h
 ·exact .inr ⟨g,h1,h2,h3,h4.keeps hk (hx _ h1)⟩
theorem Ye.lower {w:World}{B B':Nat}{p:Option Addr}{c:Nat}{s:ByteArray}(h:Ye w B p c s)(hB:B'≤B):Ye w B' p c s:=by
 rcases h with h|⟨g,h1,h2,h3,h4⟩
 ·exact .inl h
 ·exact .inr ⟨g,h1,h2,Nat.le_trans hB h3,h4⟩
theorem Ye.ty {w:World}{B:Nat}{p:Option Addr}{c:Nat}{s:ByteArray}(h:Ye w B p c s){a:Addr}(ha:p=some a):∃cc,w.heap[a.block]?=some (.cells cc 5 (0,0)):=by
 rcases h with⟨h,_⟩|⟨g,h1,h2,h3,h4⟩
 ·rw[h]at ha;cases ha
 ·rw[h1]at ha;cases ha
  exact⟨_,h4⟩
structure Ql (w:World)(ls:List ByteArray)(wr:World)(vm:Value)(em:List Value):Prop where
 row:wr.ownsRow w.heap.size 28 1 vm em.length em
 each:∀(i:Nat) (v:Value),em[i]?=some v→∃s g c,ls[i]?=some s∧v=.slice (some ⟨g,0,none⟩) s.size c∧ByR wr g s
structure Qm (w:World)(ls:List ByteArray)(wr:World)(vl:Value)(el:List Value):Prop where
 row:wr.ownsRow w.heap.size 28 1 vl el.length el
 each:∀(i:Nat) (v:Value),el[i]?=some v→∃s p c,ls[i]?=some s∧v=.slice p s.size c∧Ye wr w.heap.size p c s
 apart:∀(i j:Nat) (u v:Value),i≠j→el[i]?=some u→el[j]?=some v→∀k,u.ownBlock=some k→v.ownBlock≠some k
section
variable {w:World}{ls:List ByteArray}{wr wr':World}{vm vl:Value}{em el:List Value}
theorem XgU {p:Option Addr}{n c k:Nat}(h:(Value.slice p n c).ownBlock=some k):∃a,p=some a∧a.block=k:=by
 cases p with
 |none=>simp[Value.ownBlock]at h
 |some a=>exact⟨a,rfl,by simpa[Value.ownBlock]using h⟩
theorem Ql.keeps {X:Nat→Prop}(h:Ql w ls wr vm em)(hk:Xb X wr wr')(h1:∀k,vm.ownBlock=some k→¬X k)(h2:∀k c fz,wr.heap[k]?=some (.cells c 5 fz)→¬X k):Ql w ls wr' vm em:=by
 refine⟨Xc h.row hk h1,fun i v hv=> ?_⟩;obtain⟨s,g,c,e1,e2,e3⟩:=h.each i v hv;obtain⟨c2,fz,hc⟩:=e3.1;exact⟨s,g,c,e1,e2,e3.keeps hk (h2 g c2 fz hc)⟩
theorem Qm.keeps {X:Nat→Prop}(h:Qm w ls wr vl el)(hk:Xb X wr wr')(h1:∀k,vl.ownBlock=some k→¬X k)(h2:∀k c fz,wr.heap[k]?=some (.cells c 5 fz)→¬X k):Qm w ls wr' vl el:=by
 refine⟨Xc h.row hk h1,fun i v hv=> ?_,h.apart⟩;obtain⟨s,p,c,e1,e2,e3⟩:=h.each i v hv;refine⟨s,p,c,e1,e2,e3.keeps hk (fun a ha=> ?_)⟩;obtain⟨cc,hc⟩:=e3.ty ha;exact h2 _ _ _ hc
theorem Ql.later (h:Ql w ls wr vm em)(hb:Below wr.heap.size wr wr'):Ql w ls wr' vm em:=h.keeps (X:=fun _=>False) (Xb.of hb) (fun _ _=>id) (fun _ _ _ _=>id)
theorem Qm.later (h:Qm w ls wr vl el)(hb:Below wr.heap.size wr wr'):Qm w ls wr' vl el:=h.keeps (X:=fun _=>False) (Xb.of hb) (fun _ _=>id) (fun _ _ _ _=>id)
theorem Xbw {W:World}{B n:Nat}{v:Value}{xs:List Value}(h:W.ownsRow B 28 1 v n xs):∀k c fz,W.heap[k]?=some (.cells c 5 fz)→¬some k=v.ownBlock:=by
 intro k c fz hc hk;obtain⟨c2,hc2⟩:=Xd h hk.symm;rw[hc]at hc2;simp at hc2
theorem Ql.push {y:World}{v':Value}{g c:Nat}{s:ByteArray}(h:Ql w ls wr vm em)(hs:ls[em.length]?=some s)(hb:ByR wr g s)
  (hown:y.ownsRow w.heap.size 28 1 v' (em.length+1) (em++[.slice (some ⟨g,0,none⟩) s.size c])) (hg:wr.grownBy y vm.ownBlock):Ql w ls y v' (em++[.slice (some ⟨g,0,none⟩) s.size c]):=by
 have hG:=Xb.grown hg;refine⟨by rw[List.length_append];exact hown,fun i v hv=> ?_⟩
 have hby:∀ {g:Nat} {s:ByteArray},ByR wr g s→ByR y g s:=by
  intro g s hq;obtain⟨c2,fz,hc⟩:=hq.1;exact hq.keeps hG (Xbw h.row g c2 fz hc)
 by_cases hlt:i<em.length
 ·rw[List.getElem?_append_left hlt]at hv;obtain⟨s,g,c,e1,e2,e3⟩:=h.each i v hv;exact⟨s,g,c,e1,e2,hby e3⟩
 ·rw[List.getElem?_append_right (by omega)]at hv
  have hz:i-em.length=0:=by
   have:=(List.getElem?_eq_some_iff.1 hv).1;simp at this;omega
  rw[hz]at hv;simp at hv;have hi:i=em.length:=by omega
  subst hi;exact⟨s,g,c,hs,hv.symm,hby hb⟩
theorem Qm.push {y:World}{v':Value}{p:Option Addr}{c:Nat}{s:ByteArray}(h:Qm w ls wr vl el)(hs:ls[el.length]?=some s)(hb:Ye wr w.heap.size p c s)(hnew:∀a,p=some a→∀u∈el,u.ownBlock≠some a.block)
  (hown:y.ownsRow w.heap.size 28 1 v' (el.length+1) (el++[.slice p s.size c])) (hg:wr.grownBy y vl.ownBlock):Qm w ls y v' (el++[.slice p s.size c]):=by
 have hG:=Xb.grown hg
 have hby:∀ {p:Option Addr} {c:Nat} {s:ByteArray},Ye wr w.heap.size p c s→Ye y w.heap.size p c s:=by
  intro p c s hq;refine hq.keeps hG (fun a ha=> ?_);obtain⟨cc,hc⟩:=hq.ty ha;exact Xbw h.row _ _ _ hc
 have hcase:∀i v,(el++[.slice p s.size c])[i]?=some v→(i<el.length∧el[i]?=some v)∨(i=el.length∧v=.slice p s.size c):=by
  intro i v hv;by_cases hlt:i<el.length
  ·rw[List.getElem?_append_left hlt]at hv;exact .inl ⟨hlt,hv⟩
  ·rw[List.getElem?_append_right (by omega)]at hv
   have hz:i-el.length=0:=by
    have:=(List.getElem?_eq_some_iff.1 hv).1;simp at this;omega
   rw[hz]at hv;simp at hv;exact .inr ⟨by omega,hv.symm⟩
 refine⟨by rw[List.length_append];exact hown,fun i v hv=> ?_,fun i j u v hij hu hv k hk hk2=> ?_⟩
 ·rcases hcase i v hv with⟨_,hv⟩|⟨rfl,rfl⟩
  ·obtain ⟨s,p,c,e1,e2,e3⟩:=h.each i v hv;exact⟨s,p,c,e1,e2,hby e3⟩
  ·exact ⟨s,p,c,hs,rfl,hby hb⟩
 ·rcases hcase i u hu with⟨_,hu⟩|⟨hi,rfl⟩
  ·rcases hcase j v hv with⟨_,hv⟩|⟨hj,rfl⟩
   ·exact h.apart i j u v hij hu hv k hk hk2
   ·obtain ⟨a,ha,rfl⟩:=XgU hk2;exact hnew a ha u (List.mem_of_getElem? hu) hk
  ·rcases hcase j v hv with⟨_,hv⟩|⟨hj,rfl⟩
   ·obtain ⟨a,ha,rfl⟩:=XgU hk;exact hnew a ha v (List.mem_of_getElem? hv) hk2
   ·omega
end
theorem Xdr {W:World}{B n:Nat}{v:Value}{xs:List Value}(h:W.ownsRow B 28 1 v n xs)(hn:0<n):∃g cap,v=.slice (some ⟨g,0,none⟩) n cap∧g<W.heap.size∧∀i u,xs[i]?=some u→W.cell? ⟨g,0+i,none⟩=some u:=by
 rcases h.2 with⟨_,h0⟩|⟨g,cap,cur,hv,_,hg,_⟩
 ·omega
 ·refine ⟨g,cap,hv,(Array.getElem?_eq_some_iff.1 hg).1,fun i u hi=> ?_⟩;have:=World.ownsRow.cells h (g:=g) (by rw[hv];rfl) i u hi;rwa [Go.WideShapes.add_plain]at this
theorem XbP (ls:List ByteArray)(i:Nat)(s:ByteArray)(h:ls[i]?=some s):(ls.map fun s=>s.data.toList).getD i []=s.data.toList∧(ls.map ByteArray.size).getD i 0=s.size:=by
 simp[List.getD,List.getElem?_map,h]
theorem Xd7 {w:World}{ls:List ByteArray}{wr:World}{vm:Value}{em:List Value}(h:Ql w ls wr vm em)(hl:em.length=ls.length)(hn:ls.length≤1048576)(hsz:∀s∈ls,s.size≤1048576):
  Calls Tryz.prog 30 #[vm] wr fun e w'=>e=.returned (.tuple #[.string (Xah ls),.int .i64 (Xa9 ls)])∧Below wr.heap.size wr w':=by
 by_cases h0:ls=[]
 ·subst h0;obtain⟨p,c,hv,_⟩:=Xf h.row;rw[hl]at hv;rw[hv];exact Xg6 p c wr
 ·have hpos:0<ls.length:=List.length_pos_iff.2 h0;obtain⟨g,cap,hv,hg,hc⟩:=Xdr h.row (by omega);rw[hl]at hv;have hem:∀i,i<ls.length→∃v,em[i]?=some v:=fun i hi=>⟨_,List.getElem?_eq_getElem (by omega)⟩
  by_cases hgd:(ls.map ByteArray.size).all good=true
  ·have hF:Ju wr g 0 (ls.map fun s=>s.data.toList):=by
    intro i hi;rw[List.length_map]at hi;obtain⟨v,hv⟩:=hem i hi;obtain⟨s,b,c,e1,e2,e3⟩:=h.each i v hv;rw[(XbP ls i s e1).1];refine⟨b,0,c,?_,e3.lt,e3.2⟩;rw[hc i v hv,e2,Array.length_toList];rfl
   have q:=Xg7 g 0 cap (ls.map fun s=>s.data.toList) wr (by rw[List.length_map];exact hn) hg hF (XbM hgd);rw[List.length_map]at q;rw[hv];refine q.mono ?_;rintro e w' ⟨rfl,hb⟩;refine⟨?_,hb⟩;unfold Xah Xa9;rw[if_pos hgd,if_pos hgd]
  ·have hF:Xdu wr g 0 (ls.map ByteArray.size):=by
    intro i hi;rw[List.length_map]at hi;obtain⟨v,hv⟩:=hem i hi;obtain⟨s,b,c,e1,e2,e3⟩:=h.each i v hv;rw[(XbP ls i s e1).2];exact⟨_,c,by rw[hc i v hv,e2]⟩
   have q:=Xh8 g 0 cap (ls.map ByteArray.size) wr (by rw[List.length_map];exact hn) hF (by simpa using hgd) (fun n hn=>by
    obtain⟨s,hs,rfl⟩:=List.mem_map.1 hn;have:=hsz s hs;unfold maxLen;omega)
   rw[List.length_map]at q;rw[hv];refine q.mono ?_;rintro e w' ⟨rfl,rfl⟩;refine⟨?_,Below.refl _ _⟩;unfold Xah Xa9;rw[if_neg hgd,if_neg hgd]
theorem XnY {w:World}{ls:List ByteArray}{wr:World}{vl:Value}{el:List Value}(h:Qm w ls wr vl el)(hl:el.length=ls.length)(hn:ls.length≤1048576)(hsz:∀s∈ls,s.size≤1048576):
  Calls Tryz.prog 29 #[vl] wr fun e w'=>e=.returned (.tuple #[.string (Xah ls),.int .i64 (Xa9 ls)])∧Below wr.heap.size wr w':=by
 by_cases h0:ls=[]
 ·subst h0;obtain⟨p,c,hv,_⟩:=Xf h.row;rw[hl]at hv;rw[hv];exact Xkz p c wr
 ·have hpos:0<ls.length:=List.length_pos_iff.2 h0;obtain⟨g,cap,hv,hg,hc⟩:=Xdr h.row (by omega);rw[hl]at hv;have hem:∀i,i<ls.length→∃v,el[i]?=some v:=fun i hi=>⟨_,List.getElem?_eq_getElem (by omega)⟩
  by_cases hgd:(ls.map ByteArray.size).all good=true
  ·have hF:Ju wr g 0 (ls.map fun s=>s.data.toList):=by
    intro i hi;rw[List.length_map]at hi;obtain⟨v,hv⟩:=hem i hi;obtain⟨s,p,c,e1,e2,e3⟩:=h.each i v hv;have hlen:=XbM hgd _ (List.mem_map_of_mem (List.mem_of_getElem? e1));rw[Array.length_toList]at hlen;rw[(XbP ls i s e1).1];rcases e3.src with⟨_,e0⟩|⟨b,off,rfl,hb,hs⟩
    ·rw[← Array.length_toList,e0]at hlen;simp at hlen
    ·refine ⟨b,off,c,?_,hb,hs⟩;rw[hc i v hv,e2,Array.length_toList];rfl
   have q:=XkA g 0 cap (ls.map fun s=>s.data.toList) wr (by rw[List.length_map];exact hn) hg hF (XbM hgd);rw[List.length_map]at q;rw[hv];refine q.mono ?_;rintro e w' ⟨rfl,hb⟩;refine⟨?_,hb⟩;unfold Xah Xa9;rw[if_pos hgd,if_pos hgd]
  ·have hF:Xdu wr g 0 (ls.map ByteArray.size):=by
    intro i hi;rw[List.length_map]at hi;obtain⟨v,hv⟩:=hem i hi;obtain⟨s,p,c,e1,e2,e3⟩:=h.each i v hv;rw[(XbP ls i s e1).2];exact⟨_,c,by rw[hc i v hv,e2]⟩
   have q:=Xmr g 0 cap (ls.map ByteArray.size) wr (by rw[List.length_map];exact hn) hF (by simpa using hgd) (fun n hn=>by
    obtain⟨s,hs,rfl⟩:=List.mem_map.1 hn;have:=hsz s hs;unfold maxLen;omega)
   rw[List.length_map]at q;rw[hv];refine q.mono ?_;rintro e w' ⟨rfl,hb⟩;refine⟨?_,hb⟩;unfold Xah Xa9;rw[if_neg hgd,if_neg hgd]
def Xaz (V w:World):Prop:=V.heap=w.heap∧V.os=w.os∧V.tape=w.tape∧V.output=w.output
theorem XnS {V w:World}(h1:V.heap=w.heap)(h2:V.os=w.os)(h3:V.tape=w.tape)(h4:V.output=w.output):Xaz V w:=⟨h1,h2,h3,h4⟩
theorem Xaz.keeps {X:Nat→Prop}{V w w':World}(h:Xaz V w)(hk:Xb X V w'):Xb X w w':=by
 obtain⟨h1,h2,h3,h4⟩:=h;exact⟨hk.os.trans h2,hk.tape.trans h3,hk.output.trans h4,h1▸hk.size,fun k hl hx=>by have:=hk.block k (h1▸hl) hx;rwa [h1]at this⟩
theorem Xaz.below {B:Nat}{V w w':World}(h:Xaz V w)(hk:Below B V w'):Below B w w':=by
 obtain⟨h1,h2,h3,h4⟩:=h;exact⟨hk.os.trans h2,hk.tape.trans h3,hk.output.trans h4,h1▸hk.size,fun k hl=>by have:=hk.block k hl;rwa [h1]at this⟩
theorem Xlc {V w:World}(h:Xaz V w)(s:ByteArray)(raw:Int)(hs:s.size≤1048576):
  Calls Tryz.prog 24 #[.string s,.int .i64 raw] V fun e w'=>∃p c,e=.returned (.slice p s.size c)∧Ye w' w.heap.size p c s∧Below w.heap.size w w':=by
 refine(Xac s raw V (by omega)).mono ?_;rintro e w' ⟨p,c,rfl,h1,h2⟩;rw[h.1]at h1 h2;exact⟨p,c,rfl,h1,h.below h2⟩
theorem Xkf {V w:World}(h:Xaz V w){B:Nat}{p:Option Addr}{c:Nat}{s:ByteArray}(hl:Ye w B p c s)(hs:s.size≤1048576):
  Calls Tryz.prog 26 #[.slice p s.size c,.string s] V fun e w'=>e=.returned (.bool true)∧Xb (fun i=>some i=p.map (·.block)) w w':=by
 have hl2:Ye V B p c s:=by
  unfold Ye Yu at hl⊢;rw[h.1];exact hl
 refine(JL hl2 (by omega)).mono ?_;rintro e w' ⟨rfl,h1,_⟩;exact⟨rfl,h.keeps h1⟩
structure BIn (WA:World)(ls:List ByteArray)(k:Nat)(wr:World)(vl vm:Value)(el em:List Value):Prop where
 l:Qm WA ls wr vl el
 m:Ql WA ls wr vm em
 ll:el.length=k
 lm:em.length=k
 ne:∀q,vl.ownBlock=some q→vm.ownBlock≠some q
 b:Below WA.heap.size WA wr
section
variable {WA:World}{ls:List ByteArray}{k:Nat}{wr:World}{vl vm:Value}{el em:List Value}
theorem BIn.one {wc y:World}{v:Value}{p:Option Addr}{c N:Nat}{s:ByteArray}{o:Obj}(h:BIn WA ls k wr vl vm el em)(hb:Below wr.heap.size wr wc)(hl:Ye wc wr.heap.size p c s)(hs:ls[k]?=some s)
  (hown:y.ownsRow WA.heap.size 28 1 v (el.length+1) (el++[.slice p s.size c])) (hg:(wc.alloc o).grownBy y vl.ownBlock) (hv:v.ownBlock=vl.ownBlock∨v.ownBlock=some N) (hN:wc.heap.size≤N):
  Qm WA ls y v (el++[.slice p s.size c])∧Ql WA ls y vm em∧(∀ q,v.ownBlock=some q→vm.ownBlock≠some q)∧Below WA.heap.size WA y:=by
 have hbA:Below wr.heap.size wr (wc.alloc o):=hb.alloc hb.size o;have hz:=h.b.size;have hz1:=hb.size;have hl2:=h.l.later hbA;have hm2:=h.m.later hbA;have hL:Ye (wc.alloc o) wr.heap.size p c s:=hl.below ((Below.refl wc.heap.size wc).alloc (Nat.le_refl _) o);have hG:=Xb.grown hg;have hmlt:∀q,vm.ownBlock=some q→q<wr.heap.size:=fun q hq=>(h.m.row.lt q hq).2
 have hllo:∀q,some q=vl.ownBlock→WA.heap.size≤q:=fun q hq=>(h.l.row.lt q hq.symm).1
 refine⟨hl2.push (by rw[h.ll];exact hs) (hL.lower hz) ?_ hown hg,hm2.keeps hG ?_ (Xbw hl2.row),?_,?_⟩
 ·intro a ha u hu e;obtain⟨i,hi⟩:=List.getElem?_of_mem hu;obtain⟨s2,p2,c2,e1,e2,e3⟩:=h.l.each i u hi;rw[e2]at e;obtain⟨a2,ha2,e4⟩:=XgU e;obtain⟨cc,hc⟩:=e3.ty ha2;have h1:=(Array.getElem?_eq_some_iff.1 hc).1
  have h2:wr.heap.size≤a.block:=by
   rcases hL with⟨e0,_⟩|⟨g,e0,_,h3,_⟩
   ·rw[e0]at ha;cases ha
   ·rw[e0]at ha;cases ha
    exact h3
  omega
 ·intro q hq hx;exact h.ne q hx.symm hq
 ·intro q hq hq2;rcases hv with e|e
  ·exact h.ne q (e▸hq) hq2
  ·have e2:=Option.some.inj (e.symm.trans hq);have:=hmlt q hq2;omega
 ·exact h.b.trans ((hbA.mono hz).trans (Zy hG hllo (Nat.le_trans hz hbA.size)))
theorem BIn.two {y W y2:World}{v v2:Value}{p:Option Addr}{c c2 g N:Nat}{s:ByteArray}{o:Obj}(hll:el.length=k)(hlm:em.length=k)(h1:Qm WA ls y v (el++[.slice p s.size c]))(h2:Ql WA ls y vm em)(h3:∀q,v.ownBlock=some q→vm.ownBlock≠some q)(h4:Below WA.heap.size WA y)(hb:Below y.heap.size y W)(hl:ByR W g s)(hs:ls[k]?=some s)
  (hown:y2.ownsRow WA.heap.size 28 1 v2 (em.length+1) (em++[.slice (some ⟨g,0,none⟩) s.size c2])) (hg:(W.alloc o).grownBy y2 vm.ownBlock) (hv:v2.ownBlock=vm.ownBlock∨v2.ownBlock=some N) (hN:W.heap.size≤N):
  BIn WA ls (k+1) y2 v v2 (el++[.slice p s.size c]) (em++[.slice (some ⟨g,0,none⟩) s.size c2]):=by
 have hbA:Below y.heap.size y (W.alloc o):=hb.alloc hb.size o;have hz:=h4.size;have hz1:=hb.size;have hl2:=h1.later hbA;have hm2:=h2.later hbA;have hG:=Xb.grown hg;have hlt:∀q,v.ownBlock=some q→q<y.heap.size:=fun q hq=>(h1.row.lt q hq).2
 have hmlo:∀q,some q=vm.ownBlock→WA.heap.size≤q:=fun q hq=>(h2.row.lt q hq.symm).1
 have hby:ByR (W.alloc o) g s:=hl.keeps (X:=fun _=>False) (Xb.of ((Below.refl W.heap.size W).alloc (Nat.le_refl _) o)) id;refine⟨hl2.keeps hG ?_ (Xbw hm2.row),hm2.push (by rw[hlm];exact hs) hby hown hg,by simp[hll],by simp[hlm],?_,?_⟩
 ·intro q hq hx;exact h3 q hq hx.symm
 ·intro q hq hq2;rcases hv with e|e
  ·exact h3 q hq (e▸hq2)
  ·have e2:=Option.some.inj (e.symm.trans hq2);have:=hlt q hq;omega
 ·exact h4.trans ((hbA.mono hz).trans (Zy hG hmlo (Nat.le_trans hz hbA.size)))
end
structure WIn (WA:World)(ls:List ByteArray)(k:Nat)(wr:World)(vl:Value)(el:List Value):Prop where
 row:wr.ownsRow WA.heap.size 28 1 vl el.length el
 each:∀(i:Nat) (v:Value),k≤i→el[i]?=some v→∃s p c,ls[i]?=some s∧v=.slice p s.size c∧Ye wr WA.heap.size p c s
 apart:∀(i j:Nat) (u v:Value),i≠j→el[i]?=some u→el[j]?=some v→∀k,u.ownBlock=some k→v.ownBlock≠some k
 b:Below WA.heap.size WA wr
theorem WIn.step {WA:World}{ls:List ByteArray}{k:Nat}{wr w':World}{vl:Value}{el:List Value}{p:Option Addr}{c:Nat}{s:ByteArray}(h:WIn WA ls k wr vl el)(he:el[k]?=some (.slice p s.size c))(hl:Ye wr WA.heap.size p c s)(hk:Xb (fun i=>some i=p.map (·.block)) wr w'):WIn WA ls (k+1) w' vl el:=by
 have hX:∀i,some i=p.map (·.block)→∃a,p=some a∧a.block=i:=by
  intro i hi;cases p with
  |none=>simp at hi
  |some a=>exact⟨a,rfl,by simpa using hi.symm⟩
 have hlo:∀i,some i=p.map (·.block)→WA.heap.size≤i:=by
  intro i hi;obtain⟨a,ha,rfl⟩:=hX i hi;rcases hl with⟨e0,_⟩|⟨g,e0,_,h3,_⟩
  ·rw[e0]at ha;cases ha
  ·rw[e0]at ha;cases ha
   exact h3
 refine⟨Xc h.row hk (fun q hq hx=> ?_),fun i v hi hv=> ?_,h.apart,h.b.trans (Zy hk hlo h.b.size)⟩
 ·obtain ⟨a,ha,rfl⟩:=hX q hx;obtain⟨cc,hc⟩:=hl.ty ha;exact Xbw h.row _ _ _ hc hq.symm
 ·obtain ⟨s2,p2,c2,e1,e2,e3⟩:=h.each i v (by omega) hv;refine⟨s2,p2,c2,e1,e2,e3.keeps hk (fun a ha hx=> ?_)⟩;obtain⟨a2,ha2,e4⟩:=hX _ hx;have q1:(Value.slice p s.size c).ownBlock=some a.block:=by rw[ha2,←e4];rfl
  have q2:v.ownBlock=some a.block:=by rw[e2,ha];rfl
  exact h.apart k i _ v (by omega) he hv a.block q1 q2
end Go.Proofs.YtkalonhalhdlaaaGreatDoor
