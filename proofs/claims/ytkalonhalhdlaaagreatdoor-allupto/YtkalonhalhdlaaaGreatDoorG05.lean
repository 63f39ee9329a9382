import Derived.Test.YtkalonhalhdlaaaGreatDoorG04
import Derived.Deep.CutRange
set_option maxHeartbeats 8000000
set_option maxRecDepth 1000000
namespace Go.Proofs.YtkalonhalhdlaaaGreatDoor
open Go.RowKit
theorem Xeq (b:Nat)(h:HS)(w:World)(k:Xj w b h)(ok:h.ok):
  Calls Tryz.prog 140 #[.pointer (some ⟨b,0,none⟩)] w fun e w'=>∃p cap,e=.returned (.tuple #[fv (told (Yz h).2) p cap,.bool (Yz h).2.isSome])∧Bytes w' w.heap.size (told (Yz h).2) p cap∧Xj w' b (Yz h).1∧Xb (· =b) w w':=by
 have c1:=k.Xda;have hb:=k.lt;have ho:=ok.2.1;have hne:w.heap.size≠b:=by omega
 have hBl:=Blank.new w;have HBl:=hide hBl;clear hBl;by_cases h6:h.ones=6
 ·rw[h6]at c1;have E1:Hid (Yz h=Qq h):=by show Yz h=_;unfold Yz;rw[if_pos h6]
  clear h6;go_enter Tryz.func140,Tryz.ntmps140
  go_wp2_with fail
  refine(Xge b h _ (k.alloc _) ok).mono ?_;rintro e V1 ⟨p,cap,rfl,hby,k1,hK1⟩;have hBl:=Xa HBl;have hBl1:=hBl.keeps hK1 hne;have hK2:Xb (· =b) w V1:=((Xb.refl _ w).alloc _).trans hK1;have hlt:=hBl.lt;have hE:=Xa E1;generalize Qq h=r at hby k1 hE;have hfin:=hide (Xao hby hlt (base:=w.heap.size) (Nat.le_of_lt hlt) (.int .i64 (told r.2).1) (.slice p (told r.2).2.length cap));have E2:=hide hE;clear hby hE E1 HBl hBl;have r0:=hBl1.c0;have r1:=hBl1.c1;have rf:=hBl1.fz;generalize hto:told r.2=f at hfin;generalize hso:r.2.isSome=ok2;have HT:=hide hto;have HSo:=hide hso;clear hto hso;unfold fv;go_wp2
  rw[Xa E2,Xa HT,Xa HSo];exact bodyPost_ret (v:=.tuple #[.agg #[.int .i64 f.1,.slice p f.2.length cap],.bool ok2]) (by simp[results,Tryz.results140,go_sem,r0,r1]) rfl ⟨p,cap,rfl,Xa hfin,(k1.setOther hne _).setOther hne _,(hK2.Ze (Nat.le_refl _) _).Ze (Nat.le_refl _) _⟩
 have g6:((h.ones:Int)==6)=false:=by simp;omega
 by_cases h5:h.ones=5
 ·have E1:Hid (Yz h=(h,none)):=by show Yz h=_;unfold Yz;rw[if_neg h6,if_pos h5]
  have g5:((h.ones:Int)==5)=true:=by simp;omega
  clear h5 h6;go_enter Tryz.func140,Tryz.ntmps140
  go_wp2
  rw[Xa E1];exact bodyPost_ret (v:=.tuple #[.agg #[.int .i64 0,.slice none 0 0],.bool false]) (by simp[results,Tryz.results140,go_sem]) rfl ⟨none,0,rfl,Bytes.none _ _ _,k.alloc _,(Xb.refl _ w).alloc _⟩
 ·have E1:Hid (Yz h=(ZE h false,none)):=by show Yz h=_;unfold Yz;rw[if_neg h6,if_neg h5]
  have g5:((h.ones:Int)==5)=false:=by simp;omega
  clear h5 h6;go_enter Tryz.func140,Tryz.ntmps140
  go_wp2_with fail
  refine(add_any b h false 0 rfl _ (k.alloc _) ok).mono ?_;rintro e V1 ⟨rfl,k1,hK1⟩;have hBl1:=(Xa HBl).keeps hK1 hne;have hK2:Xb (· =b) w V1:=((Xb.refl _ w).alloc _).trans hK1;have r0:=hBl1.c0;have r1:=hBl1.c1;have rf:=hBl1.fz;go_wp2
  rw[Xa E1];exact bodyPost_ret (v:=.tuple #[.agg #[.int .i64 0,.slice none 0 0],.bool false]) (by simp[results,Tryz.results140,go_sem,r0,r1]) rfl ⟨none,0,rfl,Bytes.none _ _ _,(k1.setOther hne _).setOther hne _,(hK2.Ze (Nat.le_refl _) _).Ze (Nat.le_refl _) _⟩
theorem XmL (b:Nat)(h:HS)(w:World)(k:Xj w b h)(ok:h.ok):
  Calls Tryz.prog 108 #[.pointer (some ⟨b,0,none⟩),.int .i32 49] w fun e w'=>∃p cap,e=.returned (.tuple #[fv (told (Yx h true).2) p cap,.bool (Yx h true).2.isSome])∧Bytes w' w.heap.size (told (Yx h true).2) p cap∧Xj w' b (Yx h true).1∧Xb (· =b) w w':=by
 have hb:=k.lt;have hne:w.heap.size≠b:=by omega
 have hBl:=Blank.new w;have HBl:=hide hBl;clear hBl;have E1:Hid (Yx h true=Z5 h):=by show Yx h true=_;simp[Yx]
 go_enter Tryz.func108,Tryz.ntmps108
 go_wp2_with fail
 refine(XhS b h _ (k.alloc _) ok).mono ?_;rintro e V1 ⟨p,cap,rfl,hby,k1,hK1⟩;have hBl:=Xa HBl;have hBl1:=hBl.keeps hK1 hne;have hK2:Xb (· =b) w V1:=((Xb.refl _ w).alloc _).trans hK1;have hlt:=hBl.lt;have hE:=Xa E1;generalize Z5 h=r at hby k1 hE;have hfin:=hide (Xao hby hlt (base:=w.heap.size) (Nat.le_of_lt hlt) (.int .i64 (told r.2).1) (.slice p (told r.2).2.length cap));have E2:=hide hE;clear hby hE E1 HBl hBl;have r0:=hBl1.c0;have r1:=hBl1.c1;have rf:=hBl1.fz;generalize hto:told r.2=f at hfin;generalize hso:r.2.isSome=ok2;have HT:=hide hto;have HSo:=hide hso;clear hto hso;unfold fv;go_wp2
 rw[Xa E2,Xa HT,Xa HSo];exact bodyPost_ret (v:=.tuple #[.agg #[.int .i64 f.1,.slice p f.2.length cap],.bool ok2]) (by simp[results,Tryz.results108,go_sem,r0,r1]) rfl ⟨p,cap,rfl,Xa hfin,(k1.setOther hne _).setOther hne _,(hK2.Ze (Nat.le_refl _) _).Ze (Nat.le_refl _) _⟩
theorem XhT (b:Nat)(h:HS)(w:World)(k:Xj w b h)(ok:h.ok):
  Calls Tryz.prog 108 #[.pointer (some ⟨b,0,none⟩),.int .i32 48] w fun e w'=>∃p cap,e=.returned (.tuple #[fv (told (Yx h false).2) p cap,.bool (Yx h false).2.isSome])∧Bytes w' w.heap.size (told (Yx h false).2) p cap∧Xj w' b (Yx h false).1∧Xb (· =b) w w':=by
 have hb:=k.lt;have hne:w.heap.size≠b:=by omega
 have hBl:=Blank.new w;have HBl:=hide hBl;clear hBl;have E1:Hid (Yx h false=({(Yz h).1 with ones:=0},(Yz h).2)):=by show Yx h false=_;simp[Yx]
 go_enter Tryz.func108,Tryz.ntmps108
 go_wp2_with fail
 refine(Xeq b h _ (k.alloc _) ok).mono ?_;rintro e V1 ⟨p,cap,rfl,hby,k1,hK1⟩;have hBl:=Xa HBl;have hBl1:=hBl.keeps hK1 hne;have hK2:Xb (· =b) w V1:=((Xb.refl _ w).alloc _).trans hK1;have hlt:=hBl.lt;have hE:=Xa E1;have hf1:=k1.Xda;have hf2:=k1.frozen;generalize Yz h=r at hby k1 hE hf1;have E2:=hide hE;clear hE E1 HBl hBl;have r0:=hBl1.c0;have r1:=hBl1.c1;have rf:=hBl1.fz;generalize hto:told r.2=f at hby;generalize hso:r.2.isSome=ok2;have HT:=hide hto;have HSo:=hide hso;clear hto hso;have hltV:=hBl1.lt;have hbV:=k1.lt;unfold fv;go_wp2
 rw[Xa E2,Xa HT,Xa HSo];have hbB:b<(w.alloc (Obj.cells #[Value.int IntKind.i64 0,Value.slice none 0 0] 65)).heap.size:=(k.alloc _).lt
 have hfin:Bytes ((((V1.setCell ⟨b,1,none⟩ (.int .i64 0)).setCell ⟨w.heap.size,0,none⟩ (.int .i64 f.1)).setCell ⟨w.heap.size,1,none⟩ (.slice p f.2.length cap)).alloc (Obj.cells #[Value.int IntKind.i64 f.1,.slice p f.2.length cap] 65)) w.heap.size f p cap:=
  World.ownsRow.alloc (Xao (B:=(w.alloc (Obj.cells #[Value.int IntKind.i64 0,Value.slice none 0 0] 65)).heap.size) (ownsRow_setCell_below hby (by exact hbB) _) hlt (base:=w.heap.size) (Nat.le_of_lt hlt) _ _) _
 exact bodyPost_ret (v:=.tuple #[.agg #[.int .i64 f.1,.slice p f.2.length cap],.bool ok2]) (by simp[results,Tryz.results108,go_sem,r0,r1,hltV]) rfl ⟨p,cap,rfl,hfin,(((k1.XeJ 0).setOther hne _).setOther hne _).alloc _,(((hK2.setB _ _).Ze (Nat.le_refl _) _).Ze (Nat.le_refl _) _).alloc _⟩
abbrev Told:=List ((Nat×List UInt8)×(Option Addr×Nat))
def YC:Told→List Value
 | []=> []
 |t::r=>.int .i64 t.1.1:: .slice t.2.1 t.1.2.length t.2.2::YC r
theorem Xa8 (t:Told):(YC t).length=t.length*2:=by
 induction t with
 |nil=>rfl
 |cons x r ih=>simp[YC,ih];omega
theorem Xa7 (a b:Told):YC (a++b)=YC a++YC b:=by
 induction a with
 |nil=>rfl
 |cons x r ih=>simp[YC,ih]
def ToldAt (w:World)(base:Nat)(v:Value)(t:Told):Prop:=
 w.ownsRow base 65 2 v t.length (YC t)∧∀x∈t,Bytes w base x.1 x.2.1 x.2.2
theorem Xb.iterAt {X:Nat→Prop}{a w:World}(h:Xb X a w){k:Nat}(hk:a.heap.size≤k)(s:ByteArray)(pos:Nat):Xb X a (w.iterAt k s pos):=
 ⟨h.os,h.tape,h.output,by rw[Lib.iterAt_size];exact h.size,fun i hi hx=>by rw[Lib.iterAt_other _ _ _ _ _ (by omega)];exact h.block i hi hx⟩
theorem Xcq (w:World)(k:Nat)(s:ByteArray)(pos:Nat):Xb (· =k) w (w.iterAt k s pos):=
 ⟨rfl,rfl,rfl,by rw[Lib.iterAt_size];exact Nat.le_refl _,fun i _ hx=>Lib.iterAt_other _ _ _ _ _ hx⟩
theorem ToldAt.keeps {X:Nat→Prop}{w w':World}{base:Nat}{v:Value}{t:Told}(h:ToldAt w base v t)(hk:Xb X w w')(hx:∀k,X k→∀c fz,w.heap[k]?≠some (.cells c 65 fz)∧w.heap[k]?≠some (.cells c 5 fz)):ToldAt w' base v t:=
 ⟨XQ h.1 hk fun k hX c fz=>(hx k hX c fz).1,fun x hm=>XQ (h.2 x hm) hk fun k hX c fz=>(hx k hX c fz).2⟩
theorem XaH {X:Nat→Prop}{w w':World}{k:Nat}{s:ByteArray}{pos:Nat}(h:w.heap[k]?=some (.stringIter s pos))(hk:Xb X w w')(hx:¬X k):w'.heap[k]?=some (.stringIter s pos):=by
 rw[hk.block k (Array.getElem?_eq_some_iff.1 h).1 hx];exact h
theorem XgR (bs:List Bool)(w:World):
  Calls Tryz.prog 107 #[.string ⟨(txt bs).toArray⟩] w fun e w'=>e=.returned (.bool true)∧Below w.heap.size w w':=by
 have hsz0:=Xaf bs;have hget:=XcP bs;generalize (⟨(txt bs).toArray⟩:ByteArray)=s at hsz0 hget;have HZ:Hid (s.size=bs.length):=hsz0;have HG:Hid (∀ k (h:k<bs.length) (h':k<s.size),s[k]'h'=chr bs[k]):=hget;clear hsz0 hget;go_enter Tryz.func107,Tryz.ntmps107
 go_wp2
 go_loopw [] (fun wr=>∃(pos:Nat),pos≤bs.length∧wr.heap[w.heap.size]?=some (.stringIter s pos)∧Below w.heap.size w wr) (fun wr=>s.size-wr.iterPos w.heap.size)
 case atStart=>
  refine⟨0,Nat.zero_le _,?_,(Below.refl _ w).alloc (Nat.le_refl _) _⟩;exact World.iter_heap w s 0
 case round=>
  obtain⟨pos,hpos,hit,hbw⟩:=hrel;by_cases hp:pos<bs.length
  ·have hp':pos<s.size:=by rw[HZ.out];exact hp
   have hb0:=HG.out pos hp hp';generalize bs[pos]=bit at hb0;have hnx:∀ty,(Instr.next (.pointer (some ⟨w.heap.size,0,none⟩)) true ty).run Tryz.prog wr=_:=fun ty=>Lib.run_next_ascii_at wr w.heap.size s pos ty hit hp' (by rw[hb0];cases bit <;> decide)
   rw[hb0]at hnx;have hit2:=Lib.iterAt_heap wr w.heap.size s pos (pos+1) hit;have hbw2:=Lib.below_iterAt hbw (k:=w.heap.size) (Nat.le_refl _) s (pos+1);clear hb0 hp';cases bit
   ·have e48:(chr false).toNat=48:=by decide
    rw[e48]at hnx;clear e48;go_wp2
    go_roundw
    case rel=>exact⟨pos+1,by omega,hit2,hbw2⟩
    case measure=>
     simp only[World.iterPos,hit2,hit];have:=HZ.out;omega
   ·have e49:(chr true).toNat=49:=by decide
    rw[e49]at hnx;clear e49;go_wp2
    go_roundw
    case rel=>exact⟨pos+1,by omega,hit2,hbw2⟩
    case measure=>
     simp only[World.iterPos,hit2,hit];have:=HZ.out;omega
  ·have hp':¬pos<s.size:=by rw[HZ.out];exact hp
   have hnx:∀ty,(Instr.next (.pointer (some ⟨w.heap.size,0,none⟩)) true ty).run Tryz.prog wr=_:=fun ty=>Lib.run_next_end_at wr w.heap.size s pos ty hit hp'
   go_wp2
   go_ret
   exact⟨rfl,hbw⟩
theorem Xco:(Tryz.prog.info? 65).map (fun i=>(i.zero,i.size,i.bytes))=some (some (.agg #[.int .i64 0,.slice none 0 0]),2,32):=by kernel_rfl
theorem XkP (hc:HS)(bs:List Bool)(pos:Nat)(bit:Bool)(h1:HS)(t:List (Nat×List UInt8))(acc:List (Nat×List UInt8))(hd:bs.drop pos=bit::bs.drop (pos+1))
  (e1:(Yv hc (bs.drop pos)).1=h1) (e2:acc++(Yv hc (bs.drop pos)).2=t):
  (Yv (Yx hc bit).1 (bs.drop (pos+1))).1=h1∧(acc++(Yx hc bit).2.toList)++(Yv (Yx hc bit).1 (bs.drop (pos+1))).2=t:=by
 rw[hd]at e1 e2;simp only[Yv]at e1 e2;exact⟨e1,by rw[List.append_assoc];exact e2⟩
theorem Xb.Xhu {X Y:Nat→Prop}{a w w':World}(h:Xb X a w)(k:Xb Y w w')(hY:∀i,Y i→a.heap.size≤i):Xb X a w':=
 ⟨k.os.trans h.os,k.tape.trans h.tape,k.output.trans h.output,Nat.le_trans h.size k.size,fun i hi hx=>(k.block i (Nat.lt_of_lt_of_le hi h.size) (fun hy=>by have:=hY i hy;omega)).trans (h.block i hi hx)⟩
def Apart (t:Told):Prop:=t.Pairwise fun x y=>∀a b,x.2.1=some a→y.2.1=some b→a.block≠b.block
theorem XbH {w:World}{base:Nat}{f:Nat×List UInt8}{p:Option Addr}{cap:Nat}(h:Bytes w base f p cap):∀a,p=some a→base≤a.block∧a.block<w.heap.size:=by
 intro a ha;rcases h.2 with⟨hv,_⟩|⟨g,cp,cur,hv,hb,hg,_⟩
 ·simp only[Value.slice.injEq]at hv;rw[hv.1]at ha;simp at ha
 ·simp only[Value.slice.injEq]at hv;rw[hv.1]at ha;simp only[Option.some.injEq]at ha;rw[← ha];exact⟨hb,(Array.getElem?_eq_some_iff.1 hg).1⟩
theorem XeP {w V:World}{base B:Nat}{v:Value}{ts:Told}{f:Nat×List UInt8}{p:Option Addr}{cap:Nat}(h:Apart ts)(hT:ToldAt w base v ts)(hby:Bytes V B f p cap)(hB:w.heap.size≤B):Apart (ts++[(f,(p,cap))]):=by
 refine List.pairwise_append.2 ⟨h,by simp,?_⟩;intro x hx y hy a b ha hb;simp at hy;subst hy;have h1:=(XbH (hT.2 x hx) a ha).2;have h2:=(XbH hby b hb).1;omega
theorem Xgg {w V w2:World}{b I B:Nat}{hn:HS}{s:ByteArray}{pos:Nat}{v v':Value}{ts:Told}{f:Nat×List UInt8}{p:Option Addr}{cap:Nat}{o1 o2:Obj}
  (k1:Xj V b hn) (hit:V.heap[I]?=some (.stringIter s pos)) (hT:ToldAt V w.heap.size v ts) (hw:Xb (· =b) w V) (hby:Bytes V B f p cap) (hb:b<w.heap.size) (_hI:w.heap.size≤I) (_hne:I≠b) (hB:w.heap.size≤B)
  (hown':w2.ownsRow w.heap.size 65 2 v' (ts.length+1) (YC ts++[.int .i64 f.1,.slice p f.2.length cap])) (hgrow:((V.alloc o1).alloc o2).grownBy w2 v.ownBlock):
  ToldAt w2 w.heap.size v' (ts++[(f,(p,cap))])∧Xj w2 b hn∧w2.heap[I]?=some (.stringIter s pos)∧Xb (· =b) w w2:=by
 have hg:=Xb.grown hgrow;have hVV:Xb (fun _=>False) V ((V.alloc o1).alloc o2):=((Xb.refl _ V).alloc _).alloc _
 have hrow:∀kk,some kk=v.ownBlock→w.heap.size≤kk∧∃c fz,V.heap[kk]?=some (.cells c 65 fz):=by
  intro kk hk;rcases hT.1.2 with⟨hv,_⟩|⟨g,cp,cur,hv,hgb,hgh,_⟩
  ·rw[hv]at hk;simp[Value.ownBlock]at hk
  ·rw[hv]at hk;simp[Value.ownBlock]at hk;subst hk;exact⟨hgb,cur,_,hgh⟩
 have hrowA:∀kk,some kk=v.ownBlock→∃c fz,((V.alloc o1).alloc o2).heap[kk]?=some (.cells c 65 fz):=by
  intro kk hk;obtain⟨_,c,fz,hc⟩:=hrow kk hk;exact⟨c,fz,by rw[hVV.block kk (Array.getElem?_eq_some_iff.1 hc).1 id];exact hc⟩
 have carry:∀ {x:Nat×List UInt8} {q:Option Addr} {c:Nat},Bytes V w.heap.size x q c→Bytes w2 w.heap.size x q c:=by
  intro x q c hx;refine XQ (XQ hx hVV (fun _ h=>absurd h id)) hg ?_;intro kk hk c' fz' hc';obtain⟨c2,fz2,h2⟩:=hrowA kk hk;rw[h2]at hc';simp at hc'
 refine⟨⟨?_,?_⟩,?_,?_,?_⟩
 ·rw[Xa7,List.length_append];exact hown'
 ·intro x hx;rcases List.mem_append.1 hx with hx|hx
  ·exact carry (hT.2 x hx)
  ·simp at hx;subst hx;exact carry (Xw hby hB)
 ·exact ((k1.alloc _).alloc _).keeps hg (fun hk=>by have:=(hrow b hk).1;omega)
 ·refine XaH (XaH hit hVV id) hg (fun hk=> ?_);obtain⟨_,c,fz,hc⟩:=hrow I hk;rw[hc]at hit;simp at hit
 ·exact ((hw.alloc _).alloc _).Xhu hg (fun i hi=>(hrow i hi).1)
theorem XdK (b:Nat)(h:HS)(bs:List Bool)(w:World)(k:Xj w b h)(ok:h.ok)(hs:bs.length≤1099511627776):
  Calls Tryz.prog 68 #[.pointer (some ⟨b,0,none⟩),.string ⟨(txt bs).toArray⟩] w fun e w'=>∃v t,e=.returned (.tuple #[v,.int .i64 0])∧t.map Prod.fst=(Yv h bs).2∧ToldAt w' w.heap.size v t∧Apart t∧Xj w' b (Yv h bs).1∧Xb (· =b) w w':=by
 obtain⟨i0,hi,hz0,hz1,hz2⟩:=info_parts Xco;have hob:=XgR bs w;have hsz0:=Xaf bs;have hget:=XcP bs;generalize (⟨(txt bs).toArray⟩:ByteArray)=s at hsz0 hget hob;have HZ:Hid (s.size=bs.length):=hsz0;have HG:Hid (∀ k (h:k<bs.length) (h':k<s.size),s[k]'h'=chr bs[k]):=hget;have HOB:=hide hob;clear hsz0 hget hob;go_enter Tryz.func68,Tryz.ntmps68
 go_wp2_with fail
 refine(Xa HOB).mono ?_;rintro e W0 ⟨rfl,hb0⟩;clear HOB;have hs0:=hb0.size;have k0:Xj W0 b h:=k.keeps (Xb.of (X:=fun _=>False) hb0) id;have hblt:=k.lt;go_wp2
 obtain⟨I,hI⟩:∃I,I=W0.heap.size:=⟨_,rfl⟩;have hIw:w.heap.size≤I:=by omega
 have hneI:I≠b:=by omega
 rw[← hI];have HI:=hide hI;clear hI;go_loopw [6] (fun v wr=>∃(pos:Nat) (hc:HS) (ts:Told),pos≤bs.length∧ts.length≤pos∧hc.ok∧Xj wr b hc∧wr.heap[I]?=some (.stringIter s pos)∧ToldAt wr w.heap.size v ts∧Apart ts∧Xb (· =b) w wr∧(Yv hc (bs.drop pos)).1=(Yv h bs).1∧ts.map Prod.fst++(Yv hc (bs.drop pos)).2=(Yv h bs).2) (fun _ wr=>s.size-wr.iterPos I)
 case atStart=>
  refine⟨0,h,[],Nat.zero_le _,Nat.le_refl _,ok,k0.alloc _,?_,⟨World.ownsRow_nil _ _ _ _,by simp⟩,List.Pairwise.nil,(Xb.of hb0).alloc _,rfl,rfl⟩;rw[Xa HI];exact World.iter_heap W0 s 0
 case round=>
  obtain⟨pos,hc,ts,hpos,hts,okc,kc,hit,hT,hap,hw,hf1,hf2⟩:=hrel;have HAP:=hide hap;clear hap;have hIlt:I<wr.heap.size:=(Array.getElem?_eq_some_iff.1 hit).1;by_cases hp:pos<bs.length
  ·have hp':pos<s.size:=by rw[HZ.out];exact hp
   have hb0:=HG.out pos hp hp';have hdrop:bs.drop pos=bs[pos]::bs.drop (pos+1):=List.drop_eq_getElem_cons hp;have hF:=XkP hc bs pos bs[pos] _ _ _ hdrop hf1 hf2;clear hf1 hf2 hdrop;generalize bs[pos]=bit at hb0 hF;have hnx:∀ty,(Instr.next (.pointer (some ⟨I,0,none⟩)) true ty).run Tryz.prog wr=_:=fun ty=>Lib.run_next_ascii_at wr I s pos ty hit hp' (by rw[hb0];cases bit <;> decide)
   rw[hb0]at hnx;have hit2:=Lib.iterAt_heap wr I s pos (pos+1) hit;have kI:Xj (wr.iterAt I s (pos+1)) b hc:=kc.keeps (Xcq wr I s (pos+1)) (fun e=>hneI e.symm);have hTI:=hT.keeps (Xcq wr I s (pos+1)) (fun k hX c fz=>by subst hX;rw[hit];simp);have hwI:=hw.iterAt hIw s (pos+1);clear hb0 hp' kc hT hw;cases bit
   ·have e48:(chr false).toNat=48:=by decide
    rw[e48]at hnx;clear e48;go_wp2_with fail
    refine(XhT b hc _ kI okc).mono ?_;rintro e V ⟨p,cap,rfl,hby,k1,hK1⟩;clear hnx;have okn:=XbN hc false okc;have hT1:=hTI.keeps hK1 (fun k hX c fz=>by subst hX;rw[kI];simp);have hit3:=XaH hit2 hK1 hneI;have hwV:Xb (· =b) w V:=hwI.trans hK1;have hbV:=k1.lt;have hIV:I<V.heap.size:=(Array.getElem?_eq_some_iff.1 hit3).1;have hszV:=hK1.size;generalize Yx hc false=r at hby k1 hF okn;obtain⟨hn,o⟩:=r;cases o with
    |none=>
     have HF:=hide hF;clear hF hby;simp only[told,fv,Option.getD,Option.isSome];go_wp2
     go_roundw
     case rel=>
      have hF:=Xa HF;refine⟨pos+1,hn,ts,by omega,by omega,okn,k1.alloc _,?_,hT1.keeps (X:=fun _=>False) (Xb.of ((Below.refl _ V).alloc (Nat.le_refl _) _)) (fun _ hX=>absurd hX id),Xa HAP,hwV.alloc _,by simpa using hF.1,by simpa using hF.2⟩;rw[Below.heap_alloc _ _ _ hIV];exact hit3
     case measure=>
      have hh:∀o,(V.alloc o).heap[I]?=some (.stringIter s (pos+1)):=fun o=>by rw[Below.heap_alloc _ _ _ hIV];exact hit3
      simp only[World.iterPos,hit,hh];have:=HZ.out;omega
    |some f=>
     have HF:=hide hF;clear hF;simp only[told,Option.getD]at hby;simp only[told,fv,Option.getD,Option.isSome];go_wp2_with (at_builtin;refine wpList_append_own _ rfl _ _ 63 rfl w.heap.size 65 i0 _ 2 32 Tryz.underlying63 hi hz0 hz1 hz2 rfl (by decide) _ _ _ rfl ((hT1.1.alloc _).alloc _) ⟨V.heap.size+1,0,none⟩ 1 1 [.int .i64 f.1,.slice p f.2.length cap] rfl rfl ?noughtc1 ?noughtc2 ?noughtc3 ?noughtc4 ?noughtc5 ?_)
     case noughtc2=>exact⟨rfl,rfl⟩
     case noughtc3=>unfold maxLen;omega
     case noughtc4=>omega
     case noughtc5=>omega
     intro v' w2 hown' hgrow _;have AP:=hide (XeP (Xa HAP) hTI hby (Nat.le_refl _));have R:=hide (Xgg k1 hit3 hT1 hwV hby hblt (by omega) hneI (by rw[Lib.iterAt_size];omega) hown' hgrow);clear hown' hgrow hT1 hby hit3 hTI hit2 kI
     obtain⟨ao,n',cp,rfl⟩:∃ao n' cp,v'=.slice ao n' cp:=by
      rcases(Xa R).1.1.2 with⟨hv,_⟩|⟨g,cp,cur,hv,_⟩
      ·exact ⟨_,_,_,hv⟩
      ·exact ⟨_,_,_,hv⟩
     go_wp2
     go_roundw
     case rel=>
      have hF:=Xa HF;obtain⟨R1,R2,R3,R4⟩:=Xa R;exact⟨pos+1,hn,ts++[(f,(p,cap))],by omega,by simp;omega,okn,R2,R3,R1,Xa AP,R4,hF.1,by simpa using hF.2⟩
     case measure=>
      obtain⟨R1,R2,R3,R4⟩:=Xa R;simp only[World.iterPos,hit,R3];have:=HZ.out;omega
   ·have e49:(chr true).toNat=49:=by decide
    rw[e49]at hnx;clear e49;go_wp2_with fail
    refine(XmL b hc _ kI okc).mono ?_;rintro e V ⟨p,cap,rfl,hby,k1,hK1⟩;clear hnx;have okn:=XbN hc true okc;have hT1:=hTI.keeps hK1 (fun k hX c fz=>by subst hX;rw[kI];simp);have hit3:=XaH hit2 hK1 hneI;have hwV:Xb (· =b) w V:=hwI.trans hK1;have hbV:=k1.lt;have hIV:I<V.heap.size:=(Array.getElem?_eq_some_iff.1 hit3).1;have hszV:=hK1.size;generalize Yx hc true=r at hby k1 hF okn;obtain⟨hn,o⟩:=r;cases o with
    |none=>
     have HF:=hide hF;clear hF hby;simp only[told,fv,Option.getD,Option.isSome];go_wp2
     go_roundw
     case rel=>
      have hF:=Xa HF;refine⟨pos+1,hn,ts,by omega,by omega,okn,k1.alloc _,?_,hT1.keeps (X:=fun _=>False) (Xb.of ((Below.refl _ V).alloc (Nat.le_refl _) _)) (fun _ hX=>absurd hX id),Xa HAP,hwV.alloc _,by simpa using hF.1,by simpa using hF.2⟩;rw[Below.heap_alloc _ _ _ hIV];exact hit3
     case measure=>
      have hh:∀o,(V.alloc o).heap[I]?=some (.stringIter s (pos+1)):=fun o=>by rw[Below.heap_alloc _ _ _ hIV];exact hit3
      simp only[World.iterPos,hit,hh];have:=HZ.out;omega
    |some f=>
     have HF:=hide hF;clear hF;simp only[told,Option.getD]at hby;simp only[told,fv,Option.getD,Option.isSome];go_wp2_with (at_builtin;refine wpList_append_own _ rfl _ _ 63 rfl w.heap.size 65 i0 _ 2 32 Tryz.underlying63 hi hz0 hz1 hz2 rfl (by decide) _ _ _ rfl ((hT1.1.alloc _).alloc _) ⟨V.heap.size+1,0,none⟩ 1 1 [.int .i64 f.1,.slice p f.2.length cap] rfl rfl ?onec1 ?onec2 ?onec3 ?onec4 ?onec5 ?_)
     case onec2=>exact⟨rfl,rfl⟩
     case onec3=>unfold maxLen;omega
     case onec4=>omega
     case onec5=>omega
     intro v' w2 hown' hgrow _;have AP:=hide (XeP (Xa HAP) hTI hby (Nat.le_refl _));have R:=hide (Xgg k1 hit3 hT1 hwV hby hblt (by omega) hneI (by rw[Lib.iterAt_size];omega) hown' hgrow);clear hown' hgrow hT1 hby hit3 hTI hit2 kI
     obtain⟨ao,n',cp,rfl⟩:∃ao n' cp,v'=.slice ao n' cp:=by
      rcases(Xa R).1.1.2 with⟨hv,_⟩|⟨g,cp,cur,hv,_⟩
      ·exact ⟨_,_,_,hv⟩
      ·exact ⟨_,_,_,hv⟩
     go_wp2
     go_roundw
     case rel=>
      have hF:=Xa HF;obtain⟨R1,R2,R3,R4⟩:=Xa R;exact⟨pos+1,hn,ts++[(f,(p,cap))],by omega,by simp;omega,okn,R2,R3,R1,Xa AP,R4,hF.1,by simpa using hF.2⟩
     case measure=>
      obtain⟨R1,R2,R3,R4⟩:=Xa R;simp only[World.iterPos,hit,R3];have:=HZ.out;omega
  ·have hp':¬pos<s.size:=by rw[HZ.out];exact hp
   have hnx:∀ty,(Instr.next (.pointer (some ⟨I,0,none⟩)) true ty).run Tryz.prog wr=_:=fun ty=>Lib.run_next_end_at wr I s pos ty hit hp'
   have hd:bs.drop pos=[]:=List.drop_eq_nil_of_le (by omega);rw[hd]at hf1 hf2;simp only[Yv,List.append_nil]at hf1 hf2;have HF1:=hide hf1;have HF2:=hide hf2;clear hf1 hf2 hd;go_wp2
   go_ret2
   exact⟨_,ts,rfl,Xa HF2,hT,Xa HAP,Xa HF1▸kc,hw⟩
theorem Xjp:(Tryz.prog.info? 63).map (fun i=>(i.zero,i.size,i.bytes))=some (some (.slice none 0 0),1,24):=by kernel_rfl
def Qw (v:Value)(t:Told)(k:Nat):Prop:=v.ownBlock=some k∨∃x∈t,∃a,x.2.1=some a∧a.block=k
structure XaN (w:World)(wb:Nat)(hs ss v:Value)(b:Bk)(t:Told)(wr:World)(i:Nat)(c:Bk):Prop where
 at_:YY wr wb hs ss c
 len:c.eb.length=b.eb.length+4*i
 fs:c.fs=b.fs
 ls:c.ls=b.ls
 is:c.is=b.is
 ef:c.ef=b.ef
 el:c.el=b.el
 ei:c.ei=b.ei
 mg:c.mg=b.mg
 keeps:Xb (fun k=>k=wb∨b.blk k∨Qw v t k) w wr
 blk:∀k,c.blk k→b.blk k∨(∃ x∈t.take i,∃a,x.2.1=some a∧a.block=k)∨w.heap.size≤k
 row:wr.ownsRow 0 65 2 v t.length (YC t)
 rest:∀x∈t.drop i,wr.ownsRow 0 5 1 (.slice x.2.1 x.1.2.length x.2.2) x.1.2.length (Lib.byteCells x.1.2)
theorem XaN.step {w:World}{wb:Nat}{hs ss v:Value}{b:Bk}{t:Told}{wr:World}{i:Nat}{c:Bk}(h:XaN w wb hs ss v b t wr i c)(hA:Apart t)(hlt:∀x∈t,∀a,x.2.1=some a→a.block<w.heap.size∧¬b.blk a.block)(hi:i<t.length)
  (hN:b.eb.length+4*t.length≤4000000000000) (hn:∀x∈t,x.1.2.length≤1048576):
  Calls Tryz.prog 34 #[.pointer (some ⟨wb,2,none⟩),.slice t[i].2.1 t[i].1.2.length t[i].2.2] wr fun e w'=>e=.returned (.tuple #[])∧∃c',XaN w wb hs ss v b t w' (i+1) c':=by
 have hd:t.drop i=t[i]::t.drop (i+1):=List.drop_eq_getElem_cons hi;have hr0:=h.rest t[i] (by rw[hd];exact List.mem_cons_self);have hmem:t[i]∈t:=List.getElem_mem hi
 have hown:∀ {x:(Nat×List UInt8)×(Option Addr×Nat)} {k:Nat},(Value.slice x.2.1 x.1.2.length x.2.2).ownBlock=some k→∃a,x.2.1=some a∧a.block=k:=by
  intro x k hk;obtain⟨f,p,cp⟩:=x;cases p with
  |none=>simp[Value.ownBlock]at hk
  |some a=>exact⟨a,rfl,by simpa[Value.ownBlock]using hk⟩
 have hap:∀x∈t.take i,∀a a2,x.2.1=some a→t[i].2.1=some a2→a.block≠a2.block:=by
  intro x hx a a2 e1 e2;have hsplit:t=t.take i++t[i]::t.drop (i+1):=by rw[← hd,List.take_append_drop]
  have h2:(t.take i++t[i]::t.drop (i+1)).Pairwise fun x y=>∀a b,x.2.1=some a→y.2.1=some b→a.block≠b.block:=by rw[← hsplit];exact hA
  exact(List.pairwise_append.1 h2).2.2 x hx t[i] List.mem_cons_self a a2 e1 e2
 have hap2:∀x∈t.drop (i+1),∀a a2,t[i].2.1=some a→x.2.1=some a2→a.block≠a2.block:=by
  intro x hx a a2 e1 e2;have h2:(t[i]::t.drop (i+1)).Pairwise fun x y=>∀a b,x.2.1=some a→y.2.1=some b→a.block≠b.block:=by rw[← hd];exact List.Pairwise.drop hA
  exact(List.pairwise_cons.1 h2).1 x hx a a2 e1 e2
 have hvb:∀k,(Value.slice t[i].2.1 t[i].1.2.length t[i].2.2).ownBlock=some k→¬c.blk k:=by
  intro k hk hc;obtain⟨a,ha,rfl⟩:=hown hk;obtain⟨l1,l2⟩:=hlt _ hmem a ha;rcases h.blk _ hc with h1|⟨x,hx,a2,e2,e3⟩|h1
  ·exact l2 h1
  ·exact hap x hx a2 a e2 ha e3
  ·omega
 refine(Xdg h.at_ hr0 hvb (by have:=h.len;omega) (hn _ hmem)).mono ?_;rintro e w' ⟨rfl,c',k1,k2,k3,k4,k5,k6,k7,k8,k9,k10,k11⟩;refine⟨rfl,c',⟨k1,by have:=h.len;omega,k3.trans h.fs,k4.trans h.ls,k5.trans h.is,k6.trans h.ef,k7.trans h.el,k8.trans h.ei,k9.trans h.mg,?_,?_,?_,?_⟩⟩
 ·refine ⟨k10.os.trans h.keeps.os,k10.tape.trans h.keeps.tape,k10.output.trans h.keeps.output,Nat.le_trans h.keeps.size k10.size,fun k hk hx=> ?_⟩;rw[k10.block k (Nat.lt_of_lt_of_le hk h.keeps.size) ?_]
  ·exact h.keeps.block k hk hx
  ·rintro (rfl|hb|hb)
   ·exact hx (.inl rfl)
   ·rcases h.blk k (.inl hb.symm)with h1|⟨x,hx2,a2,e2,e3⟩|h1
    ·exact hx (.inr (.inl h1))
    ·exact hx (.inr (.inr (.inr ⟨x,List.mem_of_mem_take hx2,a2,e2,e3⟩)))
    ·omega
   ·obtain ⟨a,ha,rfl⟩:=hown hb.symm;exact hx (.inr (.inr (.inr ⟨_,hmem,a,ha,rfl⟩)))
 ·intro k hk;rcases k11 k hk with h1|h1|h1
  ·rcases h.blk k h1 with h2|⟨x,hx,a2,e2,e3⟩|h2
   ·exact .inl h2
   ·exact .inr (.inl ⟨x,by rw[List.take_add_one];exact List.mem_append_left _ hx,a2,e2,e3⟩)
   ·exact .inr (.inr h2)
  ·obtain ⟨a,ha,rfl⟩:=hown h1;exact .inr (.inl ⟨t[i],by rw[List.take_add_one,List.getElem?_eq_getElem hi];exact List.mem_append_right _ List.mem_cons_self,a,ha,rfl⟩)
  ·exact .inr (.inr (Nat.le_trans h.keeps.size h1))
 ·refine Xc h.row k10 ?_;rintro k hk (rfl|hb|hb)
  ·obtain ⟨c2,hc2⟩:=Xd h.row hk;have h3:=h.at_.head;unfold WAt at h3;rw[hc2]at h3;simp at h3
  ·obtain ⟨c2,hc2⟩:=Xd h.row hk;obtain⟨c3,hc3⟩:=Xd h.at_.rb hb.symm;rw[hc2]at hc3;simp at hc3
  ·obtain ⟨c2,hc2⟩:=Xd h.row hk;obtain⟨c3,hc3⟩:=Xd hr0 hb.symm;rw[hc2]at hc3;simp at hc3
 ·intro x hx;have hx0:x∈t.drop i:=by rw[hd];exact List.mem_cons_of_mem _ hx
  refine Xc (h.rest x hx0) k10 ?_;rintro k hk (rfl|hb|hb)
  ·obtain ⟨c2,hc2⟩:=Xd (h.rest x hx0) hk;have h3:=h.at_.head;unfold WAt at h3;rw[hc2]at h3;simp at h3
  ·obtain ⟨c2,hc2⟩:=Xd (h.rest x hx0) hk;obtain⟨c3,hc3⟩:=Xd h.at_.rb hb.symm;rw[hc2]at hc3;simp at hc3
  ·obtain ⟨a,ha,rfl⟩:=hown hk;obtain⟨a2,ha2,e3⟩:=hown hb.symm;exact hap2 x hx a2 a ha2 ha e3
theorem XaN.later {w:World}{wb:Nat}{hs ss v:Value}{b:Bk}{t:Told}{wr w':World}{i:Nat}{c:Bk}(h:XaN w wb hs ss v b t wr i c)(hb:Below wr.heap.size wr w'):XaN w wb hs ss v b t w' i c:=
 ⟨h.at_.later hb,h.len,h.fs,h.ls,h.is,h.ef,h.el,h.ei,h.mg,h.keeps.trans (Xb.of hb),h.blk,Xc (X:=fun _=>False) h.row (Xb.of hb) (fun _ _=>id),fun x hx=>Xc (X:=fun _=>False) (h.rest x hx) (Xb.of hb) (fun _ _=>id)⟩
theorem Xlu (a b:Value)(xs:List Value)(k:Nat)(hk:k*2+1<xs.length):((XG [a,b] k++xs.drop (k*2)).set (k*2) a).set (k*2+1) b=XG [a,b] (k+1)++xs.drop ((k+1)*2):=by
 have hl:(XG [a,b] k).length=k*2:=by rw[QL];rfl
 rw[List.set_append_right _ _ (by omega),hl,Nat.sub_self,List.drop_eq_getElem_cons (by omega:k*2<xs.length),List.drop_eq_getElem_cons (by omega:k*2+1<xs.length),List.set_cons_zero,List.set_append_right _ _ (by omega),hl,show k*2+1-k*2=0+1 by omega,List.set_cons_succ,List.set_cons_zero,Xa3,show(k+1)*2=k*2+1+1 by omega];simp[XG]
theorem Xjk {wr:World}{g n cp k:Nat}{xs:List Value}{u y:Value}(hk:k<n)
  (hv:wr.ownsRow 0 65 2 (.slice (some ⟨g,0,none⟩) n cp) n (XG [u,y] k++xs.drop (k*2))) (hx:xs.length=n*2):
  (∃ x0,wr.cell? ⟨g,k*2,none⟩=some x0)∧(∃ x1,(wr.setCell ⟨g,k*2,none⟩ u).cell? ⟨g,k*2+1,none⟩=some x1)∧(∀ i,wr.frozen? ⟨g,i,none⟩=false)∧(∀ i,(wr.setCell ⟨g,k*2,none⟩ u).frozen? ⟨g,i,none⟩=false)∧
   ((wr.setCell ⟨g,k*2,none⟩ u).setCell ⟨g,k*2+1,none⟩ y).ownsRow 0 65 2 (.slice (some ⟨g,0,none⟩) n cp) n (XG [u,y] (k+1)++xs.drop ((k+1)*2))∧Xb (· =g) wr ((wr.setCell ⟨g,k*2,none⟩ u).setCell ⟨g,k*2+1,none⟩ y):=by
 have h1:=(hv.stored (k*2) u).1;have h2:=(h1.stored (k*2+1) y).1;rw[Xlu u y xs k (by omega)]at h2;have hl:(XG [u,y] k++xs.drop (k*2)).length=n*2:=hv.1;obtain⟨x0,e0⟩:∃x0,(XG [u,y] k++xs.drop (k*2))[k*2]?=some x0:=⟨_,List.getElem?_eq_getElem (by omega)⟩;obtain⟨x1,e1⟩:∃x1,((XG [u,y] k++xs.drop (k*2)).set (k*2) u)[k*2+1]?=some x1:=⟨_,List.getElem?_eq_getElem (by rw[List.length_set];omega)⟩;have c0:=World.ownsRow.cells hv (g:=g) rfl (k*2) x0 e0;have c1:=World.ownsRow.cells h1 (g:=g) rfl (k*2+1) x1 e1;rw[Go.WideShapes.add_plain,Nat.zero_add]at c0 c1;exact⟨⟨x0,c0⟩,⟨x1,c1⟩,fun i=>hv.frozenAt i,fun i=>h1.frozenAt i,h2,((Xb.refl _ wr).setB _ _).setB _ _⟩
theorem QS (w:World)(l:List Value)(e:TypeId):∀j x,l[j]?=some x→(w.alloc (.cells l.toArray e)).cell? ((⟨w.heap.size,0,none⟩:Addr).add j)=some x:=by
 intro j x hj;rw[Go.WideShapes.add_plain,Lib.cell_of_heap (Xg w _),Nat.zero_add,List.getElem?_toArray];exact hj
theorem Xcd {W w2:World}{o O:Obj}{r:Option Nat}{q:Nat}(hb:W.heap[q]?=some O)(hg:(W.alloc o).grownBy w2 r)(hne:¬some q=r):w2.heap[q]?=some O:=by
 have hl:=(Array.getElem?_eq_some_iff.1 hb).1;rw[(Xb.grown hg).block q (by rw[Xk];omega) hne,((Below.refl W.heap.size W).alloc (Nat.le_refl _) o).block q hl];exact hb
theorem Xdt (t:Told)(i:Nat)(hi:i<t.length):(YC t)[i*2]?=some (.int .i64 t[i].1.1)∧(YC t)[i*2+1]?=some (.slice t[i].2.1 t[i].1.2.length t[i].2.2):=by
 induction t generalizing i with
 |nil=>simp at hi
 |cons x r ih=>
  cases i with
  |zero=>simp[YC]
  |succ i=>
   have:=ih i (by simpa using hi);rw[show(i+1)*2=i*2+1+1 by omega];simpa[YC]using this
theorem XdX {w:World}{wb:Nat}{hs ss v:Value}{b:Bk}{t:Told}(X:Nat→Prop)(hX:X wb)(hXF:∀i,b.fs.ownBlock=some i→X i)(hXV:∀i,v.ownBlock=some i→X i)(h:YY w wb hs ss b)(hv:ToldAt w 0 v t)(hA:Apart t)(hlt:∀x∈t,∀a,x.2.1=some a→a.block<w.heap.size∧¬b.blk a.block)(hvb:∀k,v.ownBlock=some k→¬b.blk k)
  (hN:b.eb.length+4*t.length≤4000000000000) (hn:∀x∈t,x.1.2.length≤1048576) (hF:b.ef.length≤1099511627776) (hT:t.length≤1099511627776):
  Calls Tryz.prog 70 #[.pointer (some ⟨wb,2,none⟩),v] w fun e w'=>e=.returned (.tuple #[])∧∃wr c fs' v1 v2 v3,XaN w wb hs ss v b t wr t.length c∧
   YV wr X wb w' #[hs,ss,c.bs,fs',b.ls,b.is] 65 63 fs' (b.ef++[v,v1,v2,v3]) (mkF b.ef.length) [(v,t.length),(v1,t.length+1),(v2,t.length+2),(v3,t.length+3)]:=by
 obtain⟨i0,hi,hz0,hz1,hz2⟩:=info_parts Xco;obtain⟨i1,hi1,hy0,hy1,hy2⟩:=info_parts Xjp;have H0:Hid (∃ c,XaN w wb hs ss v b t w 0 c):=⟨b,h,by omega,rfl,rfl,rfl,rfl,rfl,rfl,rfl,Xb.refl _ _,fun k hk=>.inl hk,hv.1,fun x hx=>hv.2 x (by simpa using hx)⟩;have HS:Hid (∀ wr i c (hi:i<t.length),XaN w wb hs ss v b t wr i c→Calls Tryz.prog 34 #[.pointer (some ⟨wb,2,none⟩),.slice t[i].2.1 t[i].1.2.length t[i].2.2] wr fun e w'=>e=.returned (.tuple #[])∧∃c',XaN w wb hs ss v b t w' (i+1) c'):=fun wr i c hi hm=>hm.step hA hlt hi hN hn
 obtain⟨p,cp,rfl,hpg⟩:=Xf hv.1;clear h hv hA hlt hvb hN hn;go_enter Tryz.func70,Tryz.ntmps70
 go_wp2
 go_loopw [4] (fun i wr=>∃k:Nat,k≤t.length∧i=.int .i64 k∧∃c,XaN w wb hs ss (.slice p t.length cp) b t wr k c) (fun i _=>t.length -(intOf i).toNat)
 case atStart=>exact⟨0,Nat.zero_le _,rfl,Xa H0⟩
 case round=>
  obtain⟨k,hk,rfl,c,hm⟩:=hrel;clear H0;by_cases hlt:k<t.length
  ·obtain ⟨g,rfl⟩:=hpg (by omega);have e2:=Xdt t k hlt;have cV:=World.ownsRow.cells hm.row (g:=g) rfl (k*2+1) _ e2.2;rw[Go.WideShapes.add_plain,Nat.zero_add]at cV;have KC:=hide (Xa HS wr k c hlt hm);clear e2 hm;generalize t[k]=x at*;go_wp2_with fail
   refine(Xa KC).mono ?_;rintro e w' ⟨rfl,c',hm'⟩;have HM:=hide hm';clear hm' KC;go_wp2
   go_roundw
   case rel=>exact⟨k+1,hlt,by go_num,c',Xa HM⟩
   case measure=>simp[intOf];omega
  ·have hkt:k=t.length:=by omega
   subst hkt;clear HS;have d3:=hm.at_.head.cell 3 _ rfl;have hcf:=hm.fs;have hce:=hm.ef;rw[hcf]at d3;obtain⟨fp,fc,hfs,_⟩:=Xf hm.at_.rf;rw[hcf,hce]at hfs;rw[hfs]at d3;have hq4:=XeA b.ef.length;have HMID:=hide hm;clear hm;go_wp2
   have hA0:=Xg wr (.cells #[.int .i64 (-1000 -(b.ef.length:Int) / 4),.slice none 0 0] 65);have hbA:=(Below.refl wr.heap.size wr).alloc (Nat.le_refl _) (.cells #[.int .i64 (-1000 -(b.ef.length:Int) / 4),.slice none 0 0] 65);have hzA:=Xk wr (.cells #[.int .i64 (-1000 -(b.ef.length:Int) / 4),.slice none 0 0] 65);generalize hWA:wr.alloc (.cells #[.int .i64 (-1000 -(b.ef.length:Int) / 4),.slice none 0 0] 65)=WA at hA0 hbA hzA;clear hWA;have HFM:=hide ((Xa HMID).later hbA);have hgl:∀g,(Value.slice p t.length cp).ownBlock=some g→g<wr.heap.size:=fun g hg=>((Xa HMID).row.lt g hg).2
   clear HMID hbA;generalize wr.heap.size=nB at*
   have HROW:Hid (WA.ownsRow 0 65 2 (.slice p t.length cp) t.length (XG (mkF b.ef.length) 0++(YC t).drop (0*2))):=by
    have:=(Xa HFM).row;rw[Nat.zero_mul,List.drop_zero];exact hide (by simpa[XG]using this)
   have HHEAD:=hide (Xa HFM).at_.head;have HFS:=hide (Xa HFM).at_.rf;rw[hcf,hce,hfs]at HFS;go_loopw [6] (fun i wq=>∃k:Nat,k≤t.length∧i=.int .i64 k∧wq.ownsRow 0 65 2 (.slice p t.length cp) t.length (XG (mkF b.ef.length) k++(YC t).drop (k*2))∧Xb (fun k=>some k=(Value.slice p t.length cp).ownBlock) WA wq) (fun i _=>t.length -(intOf i).toNat)
   case atStart=>exact⟨0,Nat.zero_le _,rfl,Xa HROW,Xb.refl _ _⟩
   case round=>
    obtain⟨k,hk,rfl,hrow,hkp⟩:=hrel;clear HROW
    have hnb:¬some nB=(Value.slice p t.length cp).ownBlock:=by
     intro e;have h2:=hgl nB e.symm;omega
    have hBx:=(hkp.block nB (by omega) hnb).trans hA0;have cB0:wr.cell? ⟨nB,0,none⟩=some (.int .i64 (-1000 -(b.ef.length:Int) / 4)):=by rw[Lib.cell_of_heap hBx];rfl
    have cB1:wr.cell? ⟨nB,1,none⟩=some (.slice none 0 0):=by rw[Lib.cell_of_heap hBx];rfl
    by_cases hlt:k<t.length
    ·obtain ⟨g,rfl⟩:=hpg (by omega);obtain⟨⟨x0,c0⟩,⟨x1,c1⟩,f0,f1,hst,hks⟩:=Xjk hlt hrow (by rw[Xa8]);have HS:Hid (_∧_):=hide (And.intro hst (hkp.trans (hks.mono (fun i hi=>by rw[hi];rfl))));clear hst hks hrow hkp;go_wp2
     go_roundw
     case rel=>
      obtain⟨q1,q2⟩:=Xa HS;exact⟨k+1,hlt,by go_num,q1,q2⟩
     case measure=>simp[intOf];omega
    ·have hkt:k=t.length:=by omega
     subst hkt;have hd:(YC t).drop (t.length*2)=[]:=List.drop_eq_nil_of_le (by rw[Xa8];omega);rw[hd,List.append_nil]at hrow;obtain⟨cbs,HBS⟩:∃u,Hid (c.bs=u):=⟨_,rfl⟩;have hmk1:YB wr 65 (mkF b.ef.length) (.slice p t.length cp) t.length:=hrow;have hvrow:∀i,some i=(Value.slice p t.length cp).ownBlock→∃cc,WA.heap[i]?=some (.cells cc 65 (0,0)):=fun i hi=>Xd (Xa HFM).row hi.symm
     have hhd:WAt wr wb #[hs,ss,c.bs,.slice fp b.ef.length fc,b.ls,b.is]:=by
      have h1:=Xa HHEAD;rw[hcf,hfs,(Xa HFM).ls,(Xa HFM).is]at h1;refine h1.keeps hkp (fun hx=> ?_);obtain⟨cc,hc⟩:=hvrow wb hx;unfold WAt at h1;rw[hc]at h1;simp at h1
     have hfr:wr.ownsRow 0 63 1 (.slice fp b.ef.length fc) b.ef.length b.ef:=by
      refine Xc (Xa HFS) hkp (fun i hi hx=> ?_);obtain⟨cc,hc⟩:=hvrow i hx;obtain⟨c2,hc2⟩:=Xd (Xa HFS) hi;rw[hc]at hc2;simp at hc2
     rw[hfs]at hXF;have hls:=(Xa HFM).ls;have his:=(Xa HFM).is;obtain⟨cls,HLS⟩:∃u,Hid (b.ls=u):=⟨_,rfl⟩;obtain⟨cis,HIS⟩:∃u,Hid (b.is=u):=⟨_,rfl⟩;rw[Xa HLS,Xa HIS]at hhd;rw[Xa HBS]at hhd
     have HK0:Hid (YV WA X wb wr #[hs,ss,cbs,.slice fp b.ef.length fc,cls,cis] 65 63 (.slice fp b.ef.length fc) b.ef (mkF b.ef.length) [(.slice p t.length cp,t.length)]):=
      ⟨hhd,hfr,fun u hu=>by simp at hu;subst hu;exact hmk1,hkp.mono (fun i hi=>hXV i hi.symm),fun i hi=>.inl (hXF i hi),fun u hu=>by simp at hu;subst hu;exact fun i hi=>.inl (hXV i hi)⟩
     have HMV:Hid (Mine X WA.heap.size (.slice p t.length cp)):=fun i hi=>.inl (hXV i hi)
     have HBX0:=hBx;have HM0:=hide hmk1;have hsz0:=(Xa HK0).keeps.size;have ho:∀u∈mkF b.ef.length,u.oneCell'=true:=by intro u hu;unfold mkF at hu;simp at hu;rcases hu with rfl|rfl <;> rfl
     clear hmk1 hhd hfr hrow hkp hd hBx HHEAD HFS hvrow cB0 cB1 hls his;have hmk0:0<(mkF b.ef.length).length:=Nat.zero_lt_succ _
     -- THE END (mkfounds.py)
     have HA1:=hide (World.ownsRow.alloc (Xa HM0) (.cells #[.int .i64 (-1000 -(b.ef.length:Int) / 4),.slice none 0 0] 65));have cB0:wr.cell? ⟨nB,0,none⟩=some (.int .i64 (-1000 -(b.ef.length:Int) / 4)):=by rw[Lib.cell_of_heap HBX0];rfl
     have cB1:wr.cell? ⟨nB,1,none⟩=some (.slice none 0 0):=by rw[Lib.cell_of_heap HBX0];rfl
     go_wp2_with (at_builtin;refine XW _ rfl _ _ 63 rfl 65 i0 _ 32 (mkF b.ef.length) Tryz.underlying63 hi hz0 hz1 hz2 rfl hmk0 ho _ _ rfl (Xa HA1) ⟨wr.heap.size,0,none⟩ 1 1 (by decide) rfl ?m1c1 ?m1c2 ?m1c3 ?_)
     case m1c1=>first|exact QS wr (XG (mkF b.ef.length) 1) 65|exact fun j u hj=>hj
     case m1c2=>unfold maxLen;omega
     case m1c3=>omega
     intro v1 w1 hm1 hk1 hg1 hb1;have HK1:=hide ((Xa HK0).mark (by decide) (by decide) (Xa HM0) (Xa HMV) (by first|(simp;done)|(simp;omega)) hm1 hk1 hg1 (by rw[Xk];exact hb1));obtain⟨p1,cp1,rfl,_⟩:=Xf hm1;have HM1:=hide ((Xa HK1).marks (.slice p t.length cp,t.length) (by simp));have hsz1:=(Xa HK1).keeps.size;have HBX1:=Xcd HBX0 hg1 hnb;clear cB0 cB1;clear hm1 hk1 hg1 hb1 HA1 HM0 HK0 HBX0;have HA2:=hide (World.ownsRow.alloc (Xa HM1) (.cells #[.int .i64 (-1000 -(b.ef.length:Int) / 4),.slice none 0 0,.int .i64 (-1000 -(b.ef.length:Int) / 4),.slice none 0 0] 65));have cB0:w1.cell? ⟨nB,0,none⟩=some (.int .i64 (-1000 -(b.ef.length:Int) / 4)):=by rw[Lib.cell_of_heap HBX1];rfl
     have cB1:w1.cell? ⟨nB,1,none⟩=some (.slice none 0 0):=by rw[Lib.cell_of_heap HBX1];rfl
     go_wp2_with (at_builtin;refine XW _ rfl _ _ 63 rfl 65 i0 _ 32 (mkF b.ef.length) Tryz.underlying63 hi hz0 hz1 hz2 rfl hmk0 ho _ _ rfl (Xa HA2) ⟨w1.heap.size,0,none⟩ 2 2 (by decide) rfl ?m2c1 ?m2c2 ?m2c3 ?_)
     case m2c1=>first|exact QS w1 (XG (mkF b.ef.length) 2) 65|exact fun j u hj=>hj
     case m2c2=>unfold maxLen;omega
     case m2c3=>omega
     intro v2 w2 hm2 hk2 hg2 hb2;have HK2:=hide ((Xa HK1).mark (by decide) (by decide) (Xa HM1) (Xa HMV) (by first|(simp;done)|(simp;omega)) hm2 hk2 hg2 (by rw[Xk];exact hb2));obtain⟨p2,cp2,rfl,_⟩:=Xf hm2;have HM2:=hide ((Xa HK2).marks (.slice p t.length cp,t.length) (by simp));have hsz2:=(Xa HK2).keeps.size;have HBX2:=Xcd HBX1 hg2 hnb;clear cB0 cB1;clear hm2 hk2 hg2 hb2 HA2 HM1 HK1 HBX1;have HA3:=hide (World.ownsRow.alloc (Xa HM2) (.cells #[.int .i64 (-1000 -(b.ef.length:Int) / 4),.slice none 0 0,.int .i64 (-1000 -(b.ef.length:Int) / 4),.slice none 0 0,.int .i64 (-1000 -(b.ef.length:Int) / 4),.slice none 0 0] 65));have cB0:w2.cell? ⟨nB,0,none⟩=some (.int .i64 (-1000 -(b.ef.length:Int) / 4)):=by rw[Lib.cell_of_heap HBX2];rfl
     have cB1:w2.cell? ⟨nB,1,none⟩=some (.slice none 0 0):=by rw[Lib.cell_of_heap HBX2];rfl
     go_wp2_with (at_builtin;refine XW _ rfl _ _ 63 rfl 65 i0 _ 32 (mkF b.ef.length) Tryz.underlying63 hi hz0 hz1 hz2 rfl hmk0 ho _ _ rfl (Xa HA3) ⟨w2.heap.size,0,none⟩ 3 3 (by decide) rfl ?m3c1 ?m3c2 ?m3c3 ?_)
     case m3c1=>first|exact QS w2 (XG (mkF b.ef.length) 3) 65|exact fun j u hj=>hj
     case m3c2=>unfold maxLen;omega
     case m3c3=>omega
     intro v3 w3 hm3 hk3 hg3 hb3;have HK3:=hide ((Xa HK2).mark (by decide) (by decide) (Xa HM2) (Xa HMV) (by first|(simp;done)|(simp;omega)) hm3 hk3 hg3 (by rw[Xk];exact hb3));obtain⟨p3,cp3,rfl,_⟩:=Xf hm3;have HM3:=hide ((Xa HK3).marks (.slice p t.length cp,t.length) (by simp));have hsz3:=(Xa HK3).keeps.size;have HBX3:=Xcd HBX2 hg3 hnb;clear cB0 cB1;clear hm3 hk3 hg3 hb3 HA3 HM2 HK2 HBX2;have d0:=(Xa HK3).head.cell 3 _ rfl;have HB0:=hide (World.ownsRow.alloc (Xa HK3).row (.cells #[.slice p t.length cp] 63));go_wp2_with (at_builtin;refine wpList_append_own_at _ rfl _ _ 39 rfl 0 63 i1 _ 1 24 Tryz.underlying39 hi1 hy0 hy1 hy2 rfl (by decide) _ _ _ rfl (Xa HB0) ⟨w3.heap.size,0,none⟩ 1 1 [.slice p t.length cp] rfl rfl ?p0c1 ?p0c2 ?p0c3 ?p0c4 ?p0c5 ?_)
     case p0c2=>first|rfl|(intro u hu;simp at hu;subst hu;rfl)
     case p0c3=>unfold maxLen;first|omega|(simp;omega)
     case p0c4=>first|omega|(simp;omega)
     intro b0 y0 hown0 hg0 _ hb0;have hd0:=(Xa HK3).pushHead (by decide) hg0;have e0:=hd0.cell 3 _ rfl;have f0:=hd0.fz;have HP0:Hid (YV WA X wb (y0.setCell ⟨wb,3,none⟩ b0) #[hs,ss,cbs,b0,cls,cis] 65 63 b0 (b.ef++[.slice p t.length cp]) (mkF b.ef.length) _):=(Xa HK3).push hX (by decide) (by decide) (by decide) (by simpa using hown0) hg0 hb0 (by omega) 3;obtain⟨bp0,bc0,rfl,_⟩:=Xf hown0;have hyz0:WA.heap.size≤y0.heap.size:=by have:=(Xa HP0).keeps.size;rwa [size_setCell]at this
     clear hown0 hg0 hb0 hd0 d0 HB0 HK3;have d1:=(Xa HP0).head.cell 3 _ rfl;have HB1:=hide (World.ownsRow.alloc (Xa HP0).row (.cells #[.slice p1 (t.length+1) cp1] 63));go_wp2_with (at_builtin;refine wpList_append_own_at _ rfl _ _ 39 rfl 0 63 i1 _ 1 24 Tryz.underlying39 hi1 hy0 hy1 hy2 rfl (by decide) _ _ _ rfl (Xa HB1) ⟨y0.heap.size,0,none⟩ 1 1 [.slice p1 (t.length+1) cp1] rfl rfl ?p1c1 ?p1c2 ?p1c3 ?p1c4 ?p1c5 ?_)
     case p1c1=>have q:=QR (y0.setCell ⟨wb,3,none⟩ (.slice bp0 (b.ef.length+1) bc0)) (.slice p1 (t.length+1) cp1) 63;rw[size_setCell]at q;exact q
     case p1c5=>exact Nat.zero_le _
     case p1c2=>first|rfl|(intro u hu;simp at hu;subst hu;rfl)
     case p1c3=>unfold maxLen;first|omega|(simp;omega)
     case p1c4=>first|omega|(simp;omega)
     intro b1 y1 hown1 hg1 _ hb1;have hd1:=(Xa HP0).pushHead (by decide) hg1;have e1:=hd1.cell 3 _ rfl;have f1:=hd1.fz;have HP1:Hid (YV WA X wb (y1.setCell ⟨wb,3,none⟩ b1) #[hs,ss,cbs,b1,cls,cis] 65 63 b1 (b.ef++[.slice p t.length cp]++[.slice p1 (t.length+1) cp1]) (mkF b.ef.length) _):=(Xa HP0).push hX (by decide) (by decide) (by decide) (by simpa using hown1) hg1 hb1 (by omega) 3;obtain⟨bp1,bc1,rfl,_⟩:=Xf hown1;have hyz1:WA.heap.size≤y1.heap.size:=by have:=(Xa HP1).keeps.size;rwa [size_setCell]at this
     clear hown1 hg1 hb1 hd1 d1 HB1 HP0;have d2:=(Xa HP1).head.cell 3 _ rfl;have HB2:=hide (World.ownsRow.alloc (Xa HP1).row (.cells #[.slice p2 (t.length+2) cp2] 63));go_wp2_with (at_builtin;refine wpList_append_own_at _ rfl _ _ 39 rfl 0 63 i1 _ 1 24 Tryz.underlying39 hi1 hy0 hy1 hy2 rfl (by decide) _ _ _ rfl (Xa HB2) ⟨y1.heap.size,0,none⟩ 1 1 [.slice p2 (t.length+2) cp2] rfl rfl ?p2c1 ?p2c2 ?p2c3 ?p2c4 ?p2c5 ?_)
     case p2c1=>have q:=QR (y1.setCell ⟨wb,3,none⟩ (.slice bp1 (b.ef.length+2) bc1)) (.slice p2 (t.length+2) cp2) 63;rw[size_setCell]at q;exact q
     case p2c5=>exact Nat.zero_le _
     case p2c2=>first|rfl|(intro u hu;simp at hu;subst hu;rfl)
     case p2c3=>unfold maxLen;first|omega|(simp;omega)
     case p2c4=>first|omega|(simp;omega)
     intro b2 y2 hown2 hg2 _ hb2;have hd2:=(Xa HP1).pushHead (by decide) hg2;have e2:=hd2.cell 3 _ rfl;have f2:=hd2.fz;have HP2:Hid (YV WA X wb (y2.setCell ⟨wb,3,none⟩ b2) #[hs,ss,cbs,b2,cls,cis] 65 63 b2 (b.ef++[.slice p t.length cp]++[.slice p1 (t.length+1) cp1]++[.slice p2 (t.length+2) cp2]) (mkF b.ef.length) _):=(Xa HP1).push hX (by decide) (by decide) (by decide) (by simpa using hown2) hg2 hb2 (by omega) 3;obtain⟨bp2,bc2,rfl,_⟩:=Xf hown2;have hyz2:WA.heap.size≤y2.heap.size:=by have:=(Xa HP2).keeps.size;rwa [size_setCell]at this
     clear hown2 hg2 hb2 hd2 d2 HB2 HP1;have d3:=(Xa HP2).head.cell 3 _ rfl;have HB3:=hide (World.ownsRow.alloc (Xa HP2).row (.cells #[.slice p3 (t.length+3) cp3] 63));go_wp2_with (at_builtin;refine wpList_append_own_at _ rfl _ _ 39 rfl 0 63 i1 _ 1 24 Tryz.underlying39 hi1 hy0 hy1 hy2 rfl (by decide) _ _ _ rfl (Xa HB3) ⟨y2.heap.size,0,none⟩ 1 1 [.slice p3 (t.length+3) cp3] rfl rfl ?p3c1 ?p3c2 ?p3c3 ?p3c4 ?p3c5 ?_)
     case p3c1=>have q:=QR (y2.setCell ⟨wb,3,none⟩ (.slice bp2 (b.ef.length+3) bc2)) (.slice p3 (t.length+3) cp3) 63;rw[size_setCell]at q;exact q
     case p3c5=>exact Nat.zero_le _
     case p3c2=>first|rfl|(intro u hu;simp at hu;subst hu;rfl)
     case p3c3=>unfold maxLen;first|omega|(simp;omega)
     case p3c4=>first|omega|(simp;omega)
     intro b3 y3 hown3 hg3 _ hb3;have hd3:=(Xa HP2).pushHead (by decide) hg3;have e3:=hd3.cell 3 _ rfl;have f3:=hd3.fz;have HP3:Hid (YV WA X wb (y3.setCell ⟨wb,3,none⟩ b3) #[hs,ss,cbs,b3,cls,cis] 65 63 b3 (b.ef++[.slice p t.length cp]++[.slice p1 (t.length+1) cp1]++[.slice p2 (t.length+2) cp2]++[.slice p3 (t.length+3) cp3]) (mkF b.ef.length) _):=(Xa HP2).push hX (by decide) (by decide) (by decide) (by simpa using hown3) hg3 hb3 (by omega) 3;obtain⟨bp3,bc3,rfl,_⟩:=Xf hown3;have hyz3:WA.heap.size≤y3.heap.size:=by have:=(Xa HP3).keeps.size;rwa [size_setCell]at this
     clear hown3 hg3 hb3 hd3 d3 HB3 HP2;go_wp2
     have q:=Xa HP3;simp only[List.append_assoc,List.cons_append,List.nil_append]at q;go_end0
     rw[← Xa HBS,←Xa HLS,←Xa HIS]at q;exact⟨rfl,WA,c,_,_,_,_,Xa HFM,q⟩
theorem XoO:(Tryz.prog.info? 28).map (fun i=>(i.zero,i.size,i.bytes))=some (some (.slice none 0 0),1,24):=by kernel_rfl
theorem Xn8:(Tryz.prog.info? 38).map (fun i=>(i.zero,i.size,i.bytes))=some (some (.slice none 0 0),1,24):=by kernel_rfl
def Z4 (v:Value)(ents:List Value)(k:Nat):Prop:=v.ownBlock=some k∨∃x∈ents,x.ownBlock=some k
structure Lls (w:World)(v:Value)(ents:List Value):Prop where
 row:w.ownsRow 0 28 1 v ents.length ents
 each:∀x∈ents,∃n xs,n≤1048576∧w.ownsRow 0 5 1 x n xs
 apart:ZV ents
theorem ZV.at {ents:List Value}(h:ZV ents){i:Nat}(hi:i<ents.length):(∀ x∈ents.take i,∀k,x.ownBlock=some k→ents[i].ownBlock≠some k)∧∀x∈ents.drop (i+1),∀k,x.ownBlock=some k→ents[i].ownBlock≠some k:=by
 refine⟨fun x hx k hk=> ?_,fun x hx k hk=> ?_⟩
 ·obtain ⟨j,hj⟩:=List.getElem?_of_mem hx;have hl:=(List.getElem?_eq_some_iff.1 hj).1;rw[List.length_take]at hl;rw[List.getElem?_take,if_pos (by omega)]at hj;exact h j i x _ k (by omega) hj (List.getElem?_eq_getElem hi) hk
 ·obtain ⟨j,hj⟩:=List.getElem?_of_mem hx;rw[List.getElem?_drop]at hj;exact h (i+1+j) i x _ k (by omega) hj (List.getElem?_eq_getElem hi) hk
structure JO (w:World)(wb:Nat)(hs ss v:Value)(b:Bk)(ents:List Value)(wr:World)(i:Nat)(c:Bk):Prop where
 at_:YY wr wb hs ss c
 len:c.eb.length=b.eb.length+4*i
 fs:c.fs=b.fs
 ls:c.ls=b.ls
 is:c.is=b.is
 ef:c.ef=b.ef
 el:c.el=b.el
 ei:c.ei=b.ei
 mg:c.mg=b.mg
 keeps:Xb (fun k=>k=wb∨b.blk k∨Z4 v ents k) w wr
 blk:∀k,c.blk k→b.blk k∨(∃ x∈ents.take i,x.ownBlock=some k)∨w.heap.size≤k
 row:wr.ownsRow 0 28 1 v ents.length ents
 rest:∀x∈ents.drop i,∃n xs,n≤1048576∧wr.ownsRow 0 5 1 x n xs
theorem JO.Xd0 {w:World}{wb:Nat}{hs ss v:Value}{b:Bk}{ents:List Value}{wr:World}{i:Nat}{c:Bk}(h:JO w wb hs ss v b ents wr i c)(hv:Lls w v ents)(hvb:∀k,v.ownBlock=some k→¬b.blk k){k:Nat}(hk:v.ownBlock=some k):¬c.blk k:=by
 intro hc;have hl:=(hv.row.lt k hk).2;rcases h.blk k hc with h1|⟨x,hx,e⟩|h1
 ·exact hvb k hk h1
 ·obtain ⟨n,xs,_,hr⟩:=hv.each x (List.mem_of_mem_take hx);obtain⟨c1,e1⟩:=Xd hr e;obtain⟨c2,e2⟩:=Xd hv.row hk;rw[e1]at e2;simp at e2
 ·omega
theorem JO.step {w:World}{wb:Nat}{hs ss v:Value}{b:Bk}{ents:List Value}{wr:World}{i:Nat}{c:Bk}(h:JO w wb hs ss v b ents wr i c)(hv:Lls w v ents)(hvb:∀k,v.ownBlock=some k→¬b.blk k)(hlt:∀x∈ents,∀k,x.ownBlock=some k→¬b.blk k)(hi:i<ents.length)
  (hN:b.eb.length+4*ents.length≤4000000000000):
  Calls Tryz.prog 34 #[.pointer (some ⟨wb,2,none⟩),ents[i]] wr fun e w'=>e=.returned (.tuple #[])∧∃c',JO w wb hs ss v b ents w' (i+1) c':=by
 have hd:ents.drop i=ents[i]::ents.drop (i+1):=List.drop_eq_getElem_cons hi;obtain⟨n0,xs0,hn0,hr0⟩:=h.rest ents[i] (by rw[hd];exact List.mem_cons_self);have hmem:ents[i]∈ents:=List.getElem_mem hi;obtain⟨hap,hap2⟩:=hv.apart.at hi
 have hlw:∀x∈ents,∀k,x.ownBlock=some k→k<w.heap.size:=fun x hx k hk=>by
  obtain⟨n,xs,_,hr⟩:=hv.each x hx;exact(hr.lt k hk).2
 have hvb1:∀k,ents[i].ownBlock=some k→¬c.blk k:=by
  intro k hk hc;rcases h.blk _ hc with h1|⟨x,hx,e2⟩|h1
  ·exact hlt _ hmem k hk h1
  ·exact hap x hx k e2 hk
  ·have:=hlw _ hmem k hk;omega
 refine(Xdg h.at_ hr0 hvb1 (by have:=h.len;omega) hn0).mono ?_;rintro e w' ⟨rfl,c',k1,k2,k3,k4,k5,k6,k7,k8,k9,k10,k11⟩;refine⟨rfl,c',⟨k1,by have:=h.len;omega,k3.trans h.fs,k4.trans h.ls,k5.trans h.is,k6.trans h.ef,k7.trans h.el,k8.trans h.ei,k9.trans h.mg,?_,?_,?_,?_⟩⟩
 ·refine ⟨k10.os.trans h.keeps.os,k10.tape.trans h.keeps.tape,k10.output.trans h.keeps.output,Nat.le_trans h.keeps.size k10.size,fun k hk hx=> ?_⟩;rw[k10.block k (Nat.lt_of_lt_of_le hk h.keeps.size) ?_]
  ·exact h.keeps.block k hk hx
  ·rintro (rfl|hb|hb)
   ·exact hx (.inl rfl)
   ·rcases h.blk k (.inl hb.symm)with h1|⟨x,hx2,e2⟩|h1
    ·exact hx (.inr (.inl h1))
    ·exact hx (.inr (.inr (.inr ⟨x,List.mem_of_mem_take hx2,e2⟩)))
    ·omega
   ·exact hx (.inr (.inr (.inr ⟨_,hmem,hb.symm⟩)))
 ·intro k hk;rcases k11 k hk with h1|h1|h1
  ·rcases h.blk k h1 with h2|⟨x,hx,e2⟩|h2
   ·exact .inl h2
   ·exact .inr (.inl ⟨x,by rw[List.take_add_one];exact List.mem_append_left _ hx,e2⟩)
   ·exact .inr (.inr h2)
  ·exact .inr (.inl ⟨ents[i],by rw[List.take_add_one,List.getElem?_eq_getElem hi];exact List.mem_append_right _ List.mem_cons_self,h1⟩)
  ·exact .inr (.inr (Nat.le_trans h.keeps.size h1))
 ·refine Xc h.row k10 ?_;rintro k hk (rfl|hb|hb)
  ·obtain ⟨c2,hc2⟩:=Xd h.row hk;have h3:=h.at_.head;unfold WAt at h3;rw[hc2]at h3;simp at h3
  ·exact h.Xd0 hv hvb hk (.inl hb.symm)
  ·obtain ⟨c2,hc2⟩:=Xd h.row hk;obtain⟨c3,hc3⟩:=Xd hr0 hb.symm;rw[hc2]at hc3;simp at hc3
 ·intro x hx;have hx0:x∈ents.drop i:=by rw[hd];exact List.mem_cons_of_mem _ hx
  obtain⟨n,xs,hn,hr⟩:=h.rest x hx0;refine⟨n,xs,hn,Xc hr k10 ?_⟩;rintro k hk (rfl|hb|hb)
  ·obtain ⟨c2,hc2⟩:=Xd hr hk;have h3:=h.at_.head;unfold WAt at h3;rw[hc2]at h3;simp at h3
  ·obtain ⟨c2,hc2⟩:=Xd hr hk;obtain⟨c3,hc3⟩:=Xd h.at_.rb hb.symm;rw[hc2]at hc3;simp at hc3
  ·exact hap2 x hx k hk hb.symm
theorem JO.later {w:World}{wb:Nat}{hs ss v:Value}{b:Bk}{ents:List Value}{wr w':World}{i:Nat}{c:Bk}(h:JO w wb hs ss v b ents wr i c)(hb:Below wr.heap.size wr w'):JO w wb hs ss v b ents w' i c:=
 ⟨h.at_.later hb,h.len,h.fs,h.ls,h.is,h.ef,h.el,h.ei,h.mg,h.keeps.trans (Xb.of hb),h.blk,Xc (X:=fun _=>False) h.row (Xb.of hb) (fun _ _=>id),fun x hx=>by
  obtain⟨n,xs,hn,hr⟩:=h.rest x hx;exact⟨n,xs,hn,Xc (X:=fun _=>False) hr (Xb.of hb) (fun _ _=>id)⟩⟩
theorem Xle {wr:World}{g n cp k:Nat}{xs:List Value}{u:Value}(hk:k<n)
  (hv:wr.ownsRow 0 28 1 (.slice (some ⟨g,0,none⟩) n cp) n (XG [u] k++xs.drop k)) (hx:xs.length=n):
  (∃ x0,wr.cell? ⟨g,k,none⟩=some x0)∧(∀ i,wr.frozen? ⟨g,i,none⟩=false)∧(wr.setCell ⟨g,k,none⟩ u).ownsRow 0 28 1 (.slice (some ⟨g,0,none⟩) n cp) n (XG [u] (k+1)++xs.drop (k+1))∧Xb (· =g) wr (wr.setCell ⟨g,k,none⟩ u):=by
 have h1:=(hv.stored k u).1;rw[Xdp _ _ _ (by omega)]at h1;have hl:(XG [u] k++xs.drop k).length=n*1:=hv.1;obtain⟨x0,e0⟩:∃x0,(XG [u] k++xs.drop k)[k]?=some x0:=⟨_,List.getElem?_eq_getElem (by omega)⟩;have c0:=World.ownsRow.cells hv (g:=g) rfl k x0 e0;rw[Go.WideShapes.add_plain,Nat.zero_add]at c0;exact⟨⟨x0,c0⟩,fun i=>hv.frozenAt i,h1,(Xb.refl _ wr).setB _ _⟩
theorem Xnz (wr:World)(n:Nat):Below wr.heap.size wr (wr.alloc (.cells #[.int .u8 ((n:Int) / 4%256),.int .u8 ((n:Int) / 1024%256)] 5)).drew∧wr.heap.size≤wr.heap.size∧Z9 (wr.alloc (.cells #[.int .u8 ((n:Int) / 4%256),.int .u8 ((n:Int) / 1024%256)] 5)).drew wr.heap.size n:=by
 refine⟨((Below.refl _ wr).alloc (Nat.le_refl _) _).drew,Nat.le_refl _,?_⟩;have h1:((n / 4%256:Nat):Int)=(n:Int) / 4%256:=by omega
 have h2:((n / 1024%256:Nat):Int)=(n:Int) / 1024%256:=by omega
 unfold Z9;rw[h1,h2];exact Xg wr _
theorem Xev {w:World}{wb:Nat}{hs ss v:Value}{b:Bk}{ents:List Value}(X:Nat→Prop)(hX:X wb)(hXF:∀i,b.ls.ownBlock=some i→X i)(hXV:∀i,v.ownBlock=some i→X i)(h:YY w wb hs ss b)(hv:Lls w v ents)(hvb:∀k,v.ownBlock=some k→¬b.blk k)(hlt:∀x∈ents,∀k,x.ownBlock=some k→¬b.blk k)
  (hN:b.eb.length+4*ents.length≤4000000000000) (hF:b.el.length≤1099511627776) (hT:ents.length≤1099511627776):
  Calls Tryz.prog 44 #[.pointer (some ⟨wb,2,none⟩),v] w fun e w'=>e=.returned (.tuple #[])∧∃wr c gm ls' v1 v2 v3,JO w wb hs ss v b ents wr ents.length c∧Z9 wr gm b.el.length∧w.heap.size≤gm∧¬c.blk gm∧
   YV wr X wb w' #[hs,ss,c.bs,b.fs,ls',b.is] 28 38 ls' (b.el++[v,v1,v2,v3]) (mkL gm) [(v,ents.length),(v1,ents.length+1),(v2,ents.length+2),(v3,ents.length+3)]:=by
 obtain⟨i0,hi,hz0,hz1,hz2⟩:=info_parts XoO;obtain⟨i1,hi1,hy0,hy1,hy2⟩:=info_parts Xn8;have H0:Hid (∃ c,JO w wb hs ss v b ents w 0 c):=⟨b,h,by omega,rfl,rfl,rfl,rfl,rfl,rfl,rfl,Xb.refl _ _,fun k hk=>.inl hk,hv.row,fun x hx=>hv.each x (by simpa using hx)⟩;have HS:Hid (∀ wr i c (hi:i<ents.length),JO w wb hs ss v b ents wr i c→Calls Tryz.prog 34 #[.pointer (some ⟨wb,2,none⟩),ents[i]] wr fun e w'=>e=.returned (.tuple #[])∧∃c',JO w wb hs ss v b ents w' (i+1) c'):=fun wr i c hi hm=>hm.step hv hvb hlt hi hN
 have HNR:Hid (∀ wr i c,JO w wb hs ss v b ents wr i c→∀k,v.ownBlock=some k→¬c.blk k):=fun wr i c hm k hk=>hm.Xd0 hv hvb hk
 obtain⟨p,cp,rfl,hpg⟩:=Xf hv.row;clear h hv hlt hvb hN;go_enter Tryz.func44,Tryz.ntmps44
 go_wp2
 go_loopw [4] (fun i wr=>∃k:Nat,k≤ents.length∧i=.int .i64 k∧∃c,JO w wb hs ss (.slice p ents.length cp) b ents wr k c) (fun i _=>ents.length -(intOf i).toNat)
 case atStart=>exact⟨0,Nat.zero_le _,rfl,Xa H0⟩
 case round=>
  obtain⟨k,hk,rfl,c,hm⟩:=hrel;clear H0;by_cases hlt:k<ents.length
  ·obtain ⟨g,rfl⟩:=hpg (by omega);have cV:=World.ownsRow.cells hm.row (g:=g) rfl k _ (List.getElem?_eq_getElem hlt);rw[Go.WideShapes.add_plain,Nat.zero_add]at cV;have KC:=hide (Xa HS wr k c hlt hm);clear hm;generalize ents[k]=x at*;go_wp2_with fail
   refine(Xa KC).mono ?_;rintro e w' ⟨rfl,c',hm'⟩;have HM:=hide hm';clear hm' KC;go_wp2
   go_roundw
   case rel=>exact⟨k+1,hlt,by go_num,c',Xa HM⟩
   case measure=>simp[intOf];omega
  ·have hkt:k=ents.length:=by omega
   subst hkt;clear HS;have d4:=hm.at_.head.cell 4 _ rfl;have hcf:=hm.ls;have hce:=hm.el;rw[hcf]at d4;obtain⟨fp,fc,hfs,_⟩:=Xf hm.at_.rl;rw[hcf,hce]at hfs;rw[hfs]at d4;have hq4:=XeA b.el.length;have hq5:=XiO b.el.length;have HMID:=hide hm;clear hm;go_upto_region 4 with fail
   go_cut [5]from 22 to 37 (fun m wx=>∃gm W,m=.slice (some ⟨gm,0,none⟩) 2 2∧wx=W∧Below wr.heap.size wr W∧wr.heap.size≤gm∧Z9 W gm b.el.length)
   case first=>
    go_region
    all_goals go_wp2_with fail
    all_goals go_meet
    all_goals exact⟨_,_,rfl,rfl,Xnz wr b.el.length⟩
   case rest=>
   obtain⟨gm,WA,hm5,hw5,hbA,hgm,hTwo⟩:=hcut;subst hm5;rw[hw5];clear hw5 d4;have HFM:=hide ((Xa HMID).later hbA);have HTW:=hide hTwo;have HGM:Hid (w.heap.size≤gm∧¬c.blk gm):=⟨Nat.le_trans (Xa HMID).keeps.size hgm,fun hc=>by have:=(Xa HMID).at_.lt hc;omega⟩;clear HMID hbA hgm hTwo;have HROW:Hid (WA.ownsRow 0 28 1 (.slice p ents.length cp) ents.length (XG (mkL gm) 0++ents.drop 0)):=hide (by simpa[XG]using (Xa HFM).row);have HHEAD:=hide (Xa HFM).at_.head;have HFS:=hide (Xa HFM).at_.rl;rw[hcf,hce,hfs]at HFS;go_wp2
   go_loopw [6] (fun i wq=>∃k:Nat,k≤ents.length∧i=.int .i64 k∧wq.ownsRow 0 28 1 (.slice p ents.length cp) ents.length (XG (mkL gm) k++ents.drop k)∧Xb (fun k=>some k=(Value.slice p ents.length cp).ownBlock) WA wq) (fun i _=>ents.length -(intOf i).toNat)
   case atStart=>exact⟨0,Nat.zero_le _,rfl,Xa HROW,Xb.refl _ _⟩
   case round=>
    obtain⟨k,hk,rfl,hrow,hkp⟩:=hrel;clear HROW;by_cases hlt:k<ents.length
    ·obtain ⟨g,rfl⟩:=hpg (by omega);obtain⟨⟨x0,c0⟩,f0,hst,hks⟩:=Xle hlt hrow rfl;have HS:Hid (_∧_):=hide (And.intro hst (hkp.trans (hks.mono (fun i hi=>by rw[hi];rfl))));clear hst hks hrow hkp;go_wp2
     go_roundw
     case rel=>
      obtain⟨q1,q2⟩:=Xa HS;exact⟨k+1,hlt,by go_num,q1,q2⟩
     case measure=>simp[intOf];omega
    ·have hkt:k=ents.length:=by omega
     subst hkt;have hd:ents.drop ents.length=[]:=List.drop_eq_nil_of_le (Nat.le_refl _);rw[hd,List.append_nil]at hrow;obtain⟨cbs,HBS⟩:∃u,Hid (c.bs=u):=⟨_,rfl⟩;have hmk1:YB wr 28 (mkL gm) (.slice p ents.length cp) ents.length:=hrow;have hvrow:∀i,some i=(Value.slice p ents.length cp).ownBlock→∃cc,WA.heap[i]?=some (.cells cc 28 (0,0)):=fun i hi=>Xd (Xa HFM).row hi.symm
     have hhd:WAt wr wb #[hs,ss,c.bs,b.fs,.slice fp b.el.length fc,b.is]:=by
      have h1:=Xa HHEAD;rw[hcf,hfs,(Xa HFM).fs,(Xa HFM).is]at h1;refine h1.keeps hkp (fun hx=> ?_);obtain⟨cc,hc⟩:=hvrow wb hx;unfold WAt at h1;rw[hc]at h1;simp at h1
     have hfr:wr.ownsRow 0 38 1 (.slice fp b.el.length fc) b.el.length b.el:=by
      refine Xc (Xa HFS) hkp (fun i hi hx=> ?_);obtain⟨cc,hc⟩:=hvrow i hx;obtain⟨c2,hc2⟩:=Xd (Xa HFS) hi;rw[hc]at hc2;simp at hc2
     rw[hfs]at hXF;obtain⟨cfs,HLS⟩:∃u,Hid (b.fs=u):=⟨_,rfl⟩;obtain⟨cis,HIS⟩:∃u,Hid (b.is=u):=⟨_,rfl⟩;rw[Xa HLS,Xa HIS]at hhd;rw[Xa HBS]at hhd
     have HK0:Hid (YV WA X wb wr #[hs,ss,cbs,cfs,.slice fp b.el.length fc,cis] 28 38 (.slice fp b.el.length fc) b.el (mkL gm) [(.slice p ents.length cp,ents.length)]):=
      ⟨hhd,hfr,fun u hu=>by simp at hu;subst hu;exact hmk1,hkp.mono (fun i hi=>hXV i hi.symm),fun i hi=>.inl (hXF i hi),fun u hu=>by simp at hu;subst hu;exact fun i hi=>.inl (hXV i hi)⟩
     have HMV:Hid (Mine X WA.heap.size (.slice p ents.length cp)):=fun i hi=>.inl (hXV i hi)
     have HM0:=hide hmk1;have hsz0:=(Xa HK0).keeps.size;have ho:∀u∈mkL gm,u.oneCell'=true:=by intro u hu;unfold mkL at hu;simp at hu;subst hu;rfl
     clear hmk1 hhd hfr hrow hkp hd HHEAD HFS hvrow HNR;have hmk0:0<(mkL gm).length:=Nat.zero_lt_succ _;have HA1:=hide (World.ownsRow.alloc (Xa HM0) (.cells #[.slice (some ⟨gm,0,none⟩) 2 2] 28));go_wp2_with (at_builtin;refine XW _ rfl _ _ 38 rfl 28 i0 _ 24 (mkL gm) Tryz.underlying38 hi hz0 hz1 hz2 rfl hmk0 ho _ _ rfl (Xa HA1) ⟨wr.heap.size,0,none⟩ 1 1 (by decide) rfl ?m1c1 ?m1c2 ?m1c3 ?_)
     case m1c1=>first|exact QS wr (XG (mkL gm) 1) 28|exact fun j u hj=>hj
     case m1c2=>unfold maxLen;omega
     case m1c3=>omega
     intro v1 w1 hm1 hk1 hg1 hb1;have HK1:=hide ((Xa HK0).mark (by decide) (by decide) (Xa HM0) (Xa HMV) (by first|(simp;done)|(simp;omega)) hm1 hk1 hg1 (by rw[Xk];exact hb1));obtain⟨p1,cp1,rfl,_⟩:=Xf hm1;have HM1:=hide ((Xa HK1).marks (.slice p ents.length cp,ents.length) (by simp));have hsz1:=(Xa HK1).keeps.size;clear hm1 hk1 hg1 hb1 HA1 HM0 HK0;have HA2:=hide (World.ownsRow.alloc (Xa HM1) (.cells #[.slice (some ⟨gm,0,none⟩) 2 2,.slice (some ⟨gm,0,none⟩) 2 2] 28));go_wp2_with (at_builtin;refine XW _ rfl _ _ 38 rfl 28 i0 _ 24 (mkL gm) Tryz.underlying38 hi hz0 hz1 hz2 rfl hmk0 ho _ _ rfl (Xa HA2) ⟨w1.heap.size,0,none⟩ 2 2 (by decide) rfl ?m2c1 ?m2c2 ?m2c3 ?_)
     case m2c1=>first|exact QS w1 (XG (mkL gm) 2) 28|exact fun j u hj=>hj
     case m2c2=>unfold maxLen;omega
     case m2c3=>omega
     intro v2 w2 hm2 hk2 hg2 hb2;have HK2:=hide ((Xa HK1).mark (by decide) (by decide) (Xa HM1) (Xa HMV) (by first|(simp;done)|(simp;omega)) hm2 hk2 hg2 (by rw[Xk];exact hb2));obtain⟨p2,cp2,rfl,_⟩:=Xf hm2;have HM2:=hide ((Xa HK2).marks (.slice p ents.length cp,ents.length) (by simp));have hsz2:=(Xa HK2).keeps.size;clear hm2 hk2 hg2 hb2 HA2 HM1 HK1;have HA3:=hide (World.ownsRow.alloc (Xa HM2) (.cells #[.slice (some ⟨gm,0,none⟩) 2 2,.slice (some ⟨gm,0,none⟩) 2 2,.slice (some ⟨gm,0,none⟩) 2 2] 28));go_wp2_with (at_builtin;refine XW _ rfl _ _ 38 rfl 28 i0 _ 24 (mkL gm) Tryz.underlying38 hi hz0 hz1 hz2 rfl hmk0 ho _ _ rfl (Xa HA3) ⟨w2.heap.size,0,none⟩ 3 3 (by decide) rfl ?m3c1 ?m3c2 ?m3c3 ?_)
     case m3c1=>first|exact QS w2 (XG (mkL gm) 3) 28|exact fun j u hj=>hj
     case m3c2=>unfold maxLen;omega
     case m3c3=>omega
     intro v3 w3 hm3 hk3 hg3 hb3;have HK3:=hide ((Xa HK2).mark (by decide) (by decide) (Xa HM2) (Xa HMV) (by first|(simp;done)|(simp;omega)) hm3 hk3 hg3 (by rw[Xk];exact hb3));obtain⟨p3,cp3,rfl,_⟩:=Xf hm3;have HM3:=hide ((Xa HK3).marks (.slice p ents.length cp,ents.length) (by simp));have hsz3:=(Xa HK3).keeps.size;clear hm3 hk3 hg3 hb3 HA3 HM2 HK2;have d0:=(Xa HK3).head.cell 4 _ rfl;have HB0:=hide (World.ownsRow.alloc (Xa HK3).row (.cells #[.slice p ents.length cp] 38));go_wp2_with (at_builtin;refine wpList_append_own_at _ rfl _ _ 40 rfl 0 38 i1 _ 1 24 Tryz.underlying40 hi1 hy0 hy1 hy2 rfl (by decide) _ _ _ rfl (Xa HB0) ⟨w3.heap.size,0,none⟩ 1 1 [.slice p ents.length cp] rfl rfl ?p0c1 ?p0c2 ?p0c3 ?p0c4 ?p0c5 ?_)
     case p0c2=>first|rfl|(intro u hu;simp at hu;subst hu;rfl)
     case p0c3=>unfold maxLen;first|omega|(simp;omega)
     case p0c4=>first|omega|(simp;omega)
     intro b0 y0 hown0 hg0 _ hb0;have hd0:=(Xa HK3).pushHead (by decide) hg0;have e0:=hd0.cell 4 _ rfl;have f0:=hd0.fz;have HP0:Hid (YV WA X wb (y0.setCell ⟨wb,4,none⟩ b0) #[hs,ss,cbs,cfs,b0,cis] 28 38 b0 (b.el++[.slice p ents.length cp]) (mkL gm) _):=(Xa HK3).push hX (by decide) (by decide) (by decide) (by simpa using hown0) hg0 hb0 (by omega) 4;obtain⟨bp0,bc0,rfl,_⟩:=Xf hown0;have hyz0:WA.heap.size≤y0.heap.size:=by have:=(Xa HP0).keeps.size;rwa [size_setCell]at this
     clear hown0 hg0 hb0 hd0 d0 HB0 HK3;have d1:=(Xa HP0).head.cell 4 _ rfl;have HB1:=hide (World.ownsRow.alloc (Xa HP0).row (.cells #[.slice p1 (ents.length+1) cp1] 38));go_wp2_with (at_builtin;refine wpList_append_own_at _ rfl _ _ 40 rfl 0 38 i1 _ 1 24 Tryz.underlying40 hi1 hy0 hy1 hy2 rfl (by decide) _ _ _ rfl (Xa HB1) ⟨y0.heap.size,0,none⟩ 1 1 [.slice p1 (ents.length+1) cp1] rfl rfl ?p1c1 ?p1c2 ?p1c3 ?p1c4 ?p1c5 ?_)
     case p1c1=>have q:=QR (y0.setCell ⟨wb,4,none⟩ (.slice bp0 (b.el.length+1) bc0)) (.slice p1 (ents.length+1) cp1) 38;rw[size_setCell]at q;exact q
     case p1c5=>exact Nat.zero_le _
     case p1c2=>first|rfl|(intro u hu;simp at hu;subst hu;rfl)
     case p1c3=>unfold maxLen;first|omega|(simp;omega)
     case p1c4=>first|omega|(simp;omega)
     intro b1 y1 hown1 hg1 _ hb1;have hd1:=(Xa HP0).pushHead (by decide) hg1;have e1:=hd1.cell 4 _ rfl;have f1:=hd1.fz;have HP1:Hid (YV WA X wb (y1.setCell ⟨wb,4,none⟩ b1) #[hs,ss,cbs,cfs,b1,cis] 28 38 b1 (b.el++[.slice p ents.length cp]++[.slice p1 (ents.length+1) cp1]) (mkL gm) _):=(Xa HP0).push hX (by decide) (by decide) (by decide) (by simpa using hown1) hg1 hb1 (by omega) 4;obtain⟨bp1,bc1,rfl,_⟩:=Xf hown1;have hyz1:WA.heap.size≤y1.heap.size:=by have:=(Xa HP1).keeps.size;rwa [size_setCell]at this
     clear hown1 hg1 hb1 hd1 d1 HB1 HP0;have d2:=(Xa HP1).head.cell 4 _ rfl;have HB2:=hide (World.ownsRow.alloc (Xa HP1).row (.cells #[.slice p2 (ents.length+2) cp2] 38));go_wp2_with (at_builtin;refine wpList_append_own_at _ rfl _ _ 40 rfl 0 38 i1 _ 1 24 Tryz.underlying40 hi1 hy0 hy1 hy2 rfl (by decide) _ _ _ rfl (Xa HB2) ⟨y1.heap.size,0,none⟩ 1 1 [.slice p2 (ents.length+2) cp2] rfl rfl ?p2c1 ?p2c2 ?p2c3 ?p2c4 ?p2c5 ?_)
     case p2c1=>have q:=QR (y1.setCell ⟨wb,4,none⟩ (.slice bp1 (b.el.length+2) bc1)) (.slice p2 (ents.length+2) cp2) 38;rw[size_setCell]at q;exact q
     case p2c5=>exact Nat.zero_le _
     case p2c2=>first|rfl|(intro u hu;simp at hu;subst hu;rfl)
     case p2c3=>unfold maxLen;first|omega|(simp;omega)
     case p2c4=>first|omega|(simp;omega)
     intro b2 y2 hown2 hg2 _ hb2;have hd2:=(Xa HP1).pushHead (by decide) hg2;have e2:=hd2.cell 4 _ rfl;have f2:=hd2.fz;have HP2:Hid (YV WA X wb (y2.setCell ⟨wb,4,none⟩ b2) #[hs,ss,cbs,cfs,b2,cis] 28 38 b2 (b.el++[.slice p ents.length cp]++[.slice p1 (ents.length+1) cp1]++[.slice p2 (ents.length+2) cp2]) (mkL gm) _):=(Xa HP1).push hX (by decide) (by decide) (by decide) (by simpa using hown2) hg2 hb2 (by omega) 4;obtain⟨bp2,bc2,rfl,_⟩:=Xf hown2;have hyz2:WA.heap.size≤y2.heap.size:=by have:=(Xa HP2).keeps.size;rwa [size_setCell]at this
     clear hown2 hg2 hb2 hd2 d2 HB2 HP1;have d3:=(Xa HP2).head.cell 4 _ rfl;have HB3:=hide (World.ownsRow.alloc (Xa HP2).row (.cells #[.slice p3 (ents.length+3) cp3] 38));go_wp2_with (at_builtin;refine wpList_append_own_at _ rfl _ _ 40 rfl 0 38 i1 _ 1 24 Tryz.underlying40 hi1 hy0 hy1 hy2 rfl (by decide) _ _ _ rfl (Xa HB3) ⟨y2.heap.size,0,none⟩ 1 1 [.slice p3 (ents.length+3) cp3] rfl rfl ?p3c1 ?p3c2 ?p3c3 ?p3c4 ?p3c5 ?_)
     case p3c1=>have q:=QR (y2.setCell ⟨wb,4,none⟩ (.slice bp2 (b.el.length+3) bc2)) (.slice p3 (ents.length+3) cp3) 38;rw[size_setCell]at q;exact q
     case p3c5=>exact Nat.zero_le _
     case p3c2=>first|rfl|(intro u hu;simp at hu;subst hu;rfl)
     case p3c3=>unfold maxLen;first|omega|(simp;omega)
     case p3c4=>first|omega|(simp;omega)
     intro b3 y3 hown3 hg3 _ hb3;have hd3:=(Xa HP2).pushHead (by decide) hg3;have e3:=hd3.cell 4 _ rfl;have f3:=hd3.fz;have HP3:Hid (YV WA X wb (y3.setCell ⟨wb,4,none⟩ b3) #[hs,ss,cbs,cfs,b3,cis] 28 38 b3 (b.el++[.slice p ents.length cp]++[.slice p1 (ents.length+1) cp1]++[.slice p2 (ents.length+2) cp2]++[.slice p3 (ents.length+3) cp3]) (mkL gm) _):=(Xa HP2).push hX (by decide) (by decide) (by decide) (by simpa using hown3) hg3 hb3 (by omega) 4;obtain⟨bp3,bc3,rfl,_⟩:=Xf hown3;have hyz3:WA.heap.size≤y3.heap.size:=by have:=(Xa HP3).keeps.size;rwa [size_setCell]at this
     clear hown3 hg3 hb3 hd3 d3 HB3 HP2;go_wp2
     have q:=Xa HP3;simp only[List.append_assoc,List.cons_append,List.nil_append]at q;go_end0
     rw[← Xa HBS,←Xa HLS,←Xa HIS]at q;exact⟨rfl,WA,c,gm,_,_,_,_,Xa HFM,Xa HTW,(Xa HGM).1,(Xa HGM).2,q⟩
theorem Xny {w:World}{g n:Nat}(h:Z9 w g n)(h4:n%4=0)(j:Nat)(hj:j<4):Z9 w g (n+j):=by
 unfold Z9 at h⊢;have h1:(n+j) / 4%256=n / 4%256:=by omega
 have h2:(n+j) / 1024%256=n / 1024%256:=by omega
 rw[h1,h2];exact h
theorem Xfz {w:World}{wb:Nat}{hs ss v:Value}{b:Bk}{ents:List Value}(h:YY w wb hs ss b)(hv:Lls w v ents)(hvb:∀k,v.ownBlock=some k→¬b.blk k)(hlt:∀x∈ents,∀k,x.ownBlock=some k→¬b.blk k)
  (hN:b.eb.length+4*ents.length≤4000000000000) (hF:b.el.length≤1099511627776) (hT:ents.length≤1099511627000):
  Calls Tryz.prog 44 #[.pointer (some ⟨wb,2,none⟩),v] w fun e w'=>e=.returned (.tuple #[])∧∃b':Bk,YY w' wb hs ss b'∧b'.eb.length=b.eb.length+4*ents.length∧b'.el.length=b.el.length+4∧b'.ef=b.ef∧b'.ei=b.ei∧
   Xb (fun k=>k=wb∨b.blk k∨Z4 v ents k) w w'∧(∀ k,b'.blk k→b.blk k∨Z4 v ents k∨w.heap.size≤k):=by
 refine(Xev (QF wb b.ls v) (.inl rfl) (fun i hi=>.inr (.inl hi.symm)) (fun i hi=>.inr (.inr hi.symm)) h hv hvb hlt hN hF (by omega)).mono ?_;rintro e w' ⟨rfl,wr,c,gm,ls',v1,v2,v3,M,hTw,hgm,hgc,K⟩;have hvlt:∀k,v.ownBlock=some k→k<w.heap.size:=fun k hk=>(hv.row.lt k hk).2
 have hls:∀k,ls'.ownBlock=some k→b.ls.ownBlock=some k∨wr.heap.size≤k:=by
  intro k hk;rcases K.mineB k hk with(hx|hx|hx)|hx
  ·exfalso
   obtain⟨c,hc⟩:=Xd K.row hk;have h3:=K.head;unfold WAt at h3;rw[← hx,hc]at h3;simp at h3
  ·exact .inl hx.symm
  ·exfalso
   obtain⟨c,hc⟩:=Xd K.row hk;obtain⟨c2,hc2⟩:=Xd (K.marks (v,ents.length) (by simp)) (k:=k) hx.symm;rw[hc]at hc2;simp at hc2
  ·exact .inr hx
 have hmk:∀u:Value×Nat,u∈ [(v,ents.length),(v1,ents.length+1),(v2,ents.length+2),(v3,ents.length+3)]→∀k,u.1.ownBlock=some k→b.ls.ownBlock=some k∨v.ownBlock=some k∨wr.heap.size≤k:=by
  intro u hu k hk;rcases K.mineU u hu k hk with(hx|hx|hx)|hx
  ·exfalso
   obtain⟨c,hc⟩:=Xd (K.marks u hu) hk;have h3:=K.head;unfold WAt at h3;rw[← hx,hc]at h3;simp at h3
  ·exact .inl hx.symm
  ·exact .inr (.inl hx.symm)
  ·exact .inr (.inr hx)
 have hsz:=M.keeps.size
 have hno:∀k,c.blk k→b.ls.ownBlock≠some k→¬QF wb b.ls v k:=by
  rintro k hk hne (rfl|hx|hx)
  ·exact M.at_.Xbt hk
  ·exact hne hx.symm
  ·exact M.Xd0 hv hvb hx.symm hk
 have hty:∀ {k:Nat} {cc:Array Value} {ty:TypeId},wr.heap[k]?=some (.cells cc ty (0,0))→ty≠38→b.ls.ownBlock≠some k:=by
  intro k cc ty hc ht hk;have hrf:=M.at_.rl;rw[M.ls]at hrf;obtain⟨c2,hc2⟩:=Xd hrf hk;rw[hc]at hc2;simp at hc2;exact ht hc2.2
 have hrow:∀ {k:Nat} {ty:TypeId} {sz m:Nat} {u:Value} {ys:List Value},wr.ownsRow 0 ty sz u m ys→u.ownBlock=some k→ty≠38→b.ls.ownBlock≠some k:=by
  intro k ty sz m u ys hr hk ht;obtain⟨cc,hc⟩:=Xd hr hk;exact hty hc ht
 have hA2:=M.at_;have hmg:∀i,i<b.el.length→(if i<b.el.length then b.mg i else gm)=b.mg i:=fun i hi=>if_pos hi
 have hgt:¬QF wb b.ls v gm:=by
  unfold Z9 at hTw;rintro(rfl|hx|hx)
  ·have h3:=M.at_.head;unfold WAt at h3;rw[hTw]at h3;simp at h3
  ·exact hty hTw (by decide) hx.symm
  ·obtain ⟨c2,hc2⟩:=Xd M.row hx.symm;rw[hTw]at hc2;simp at hc2
 have hTw':Z9 w' gm b.el.length:=by
  unfold Z9 at hTw⊢;rw[K.keeps.block _ (Array.getElem?_eq_some_iff.1 hTw).1 hgt];exact hTw
 have hap:∀u:Value×Nat,u∈ [(v,ents.length),(v1,ents.length+1),(v2,ents.length+2),(v3,ents.length+3)]→∀k,u.1.ownBlock=some k→c.bs.ownBlock≠some k:=by
  intro u hu k hk hk2;rcases hmk u hu k hk with h1|h1|h1
  ·exact hrow hA2.rb hk2 (by decide) h1
  ·exact M.Xd0 hv hvb h1 (.inl hk2)
  ·have:=hA2.lt (.inl hk2);omega
 refine⟨rfl,⟨c.bs,b.fs,ls',b.is,c.eb,b.ef,b.el++[v,v1,v2,v3],b.ei,fun i=>if i<b.el.length then b.mg i else gm⟩,⟨K.head,?_,?_,K.row,?_,?_,?_,?_,?_,?_,hA2.fb,h.ff,?_,h.fi,?_⟩,by show c.eb.length=_;rw[M.len],by simp,rfl,rfl,?_,?_⟩
 ·exact Xc hA2.rb K.keeps fun k e=>hno k (.inl e) (hrow hA2.rb e (by decide))
 ·have q:=hA2.rf;have q2:∀k,c.fs.ownBlock=some k→¬QF wb b.ls v k:=fun k e=>hno k (.inr (.inl e)) (hrow hA2.rf e (by decide))
  rw[M.fs]at q q2;rw[M.ef]at q;exact Xc q K.keeps q2
 ·have q:=hA2.ri;have q2:∀k,c.is.ownBlock=some k→¬QF wb b.ls v k:=fun k e=>hno k (.inr (.inr (.inr (.inl e)))) (hrow hA2.ri e (by decide))
  rw[M.is]at q q2;rw[M.ei]at q;exact Xc q K.keeps q2
 ·intro i u hi;obtain⟨m,hm,hm2⟩:=hA2.mb i u hi;exact⟨m,Xc hm K.keeps fun k e=>hno k (.inr (.inr (.inr (.inr (.inl ⟨u,Xl hi,e⟩))))) (hrow hm e (by decide)),hm2⟩
 ·intro i u hi;have hi2:c.ef[i]?=some u:=by rw[M.ef];exact hi
  obtain⟨m,hm,hm2⟩:=hA2.mf i u hi2;exact⟨m,Xc hm K.keeps fun k e=>hno k (.inr (.inr (.inr (.inr (.inr (.inl ⟨u,Xl hi2,e⟩)))))) (hrow hm e (by decide)),hm2⟩
 ·intro i u hi;rcases XbL hi with⟨hlt,hi⟩|⟨j,hj,rfl,hi⟩
  ·rw[← M.el]at hi;obtain⟨m,hm,hm2⟩:=hA2.ml i u hi;rw[M.mg]at hm;simp only[hlt,if_true];exact⟨m,Xc hm K.keeps fun k e=>hno k (.inr (.inr (.inr (.inr (.inr (.inr (.inl ⟨u,Xl hi,e⟩))))))) (hrow hm e (by decide)),hm2⟩
  ·simp only[show ¬b.el.length+j<b.el.length by omega,if_false];have hc:j=0∨j=1∨j=2∨j=3:=by omega
   rcases hc with rfl|rfl|rfl|rfl <;>(simp at hi;subst hi)
   ·exact ⟨ents.length,K.marks (v,ents.length) (by simp),by omega⟩
   ·exact ⟨ents.length+1,K.marks (v1,ents.length+1) (by simp),by omega⟩
   ·exact ⟨ents.length+2,K.marks (v2,ents.length+2) (by simp),by omega⟩
   ·exact ⟨ents.length+3,K.marks (v3,ents.length+3) (by simp),by omega⟩
 ·intro i u hi;have hi2:c.ei[i]?=some u:=by rw[M.ei];exact hi
  obtain⟨m,hm,hm2⟩:=hA2.mi i u hi2;exact⟨m,Xc hm K.keeps fun k e=>hno k (.inr (.inr (.inr (.inr (.inr (.inr (.inr (.inl ⟨u,Xl hi2,e⟩)))))))) (hrow hm e (by decide)),hm2⟩
 ·intro i hi;by_cases hlt2:i<b.el.length
  ·simp only[hlt2,if_true];have hi2:i<c.el.length:=by rw[M.el];exact hlt2
   have ht:=hA2.two i hi2;have hq:=hno _ (.inr (.inr (.inr (.inr (.inr (.inr (.inr (.inr ⟨i,hi2,rfl⟩)))))))) (hty ht (by decide));rw[M.mg]at ht hq;unfold Z9 at ht⊢;rw[K.keeps.block _ (Array.getElem?_eq_some_iff.1 ht).1 hq];exact ht
  ·simp only[hlt2,if_false];simp only[List.length_append,List.length_cons,List.length_nil]at hi;have q:=Xny hTw' h.fl (i-b.el.length) (by omega);rw[show b.el.length+(i-b.el.length)=i by omega]at q;exact q
 ·have:=h.fl;simp;omega
 ·intro u hu k hk;rcases XaV hu with hu|rfl|rfl|rfl|rfl
  ·exact hA2.apart u (by rw[M.el];exact hu) k hk
  ·exact hap (u,ents.length) (by simp) k hk
  ·exact hap (u,ents.length+1) (by simp) k hk
  ·exact hap (u,ents.length+2) (by simp) k hk
  ·exact hap (u,ents.length+3) (by simp) k hk
 ·refine ⟨K.keeps.os.trans M.keeps.os,K.keeps.tape.trans M.keeps.tape,K.keeps.output.trans M.keeps.output,Nat.le_trans hsz K.keeps.size,fun k hk hx=> ?_⟩;rw[K.keeps.block k (by omega) ?_]
  ·exact M.keeps.block k hk hx
  ·rintro (rfl|hb|hb)
   ·exact hx (.inl rfl)
   ·exact hx (.inr (.inl (.inr (.inr (.inl hb.symm)))))
   ·exact hx (.inr (.inr (.inl hb.symm)))
 ·have hcb:∀k,c.blk k→b.blk k∨Z4 v ents k∨w.heap.size≤k:=by
   intro k hk;rcases M.blk k hk with h1|⟨x,hx,e⟩|h1
   ·exact .inl h1
   ·exact .inr (.inl (.inr ⟨x,List.mem_of_mem_take hx,e⟩))
   ·exact .inr (.inr h1)
  have hmk2:∀u:Value×Nat,u∈ [(v,ents.length),(v1,ents.length+1),(v2,ents.length+2),(v3,ents.length+3)]→∀k,u.1.ownBlock=some k→b.blk k∨Z4 v ents k∨w.heap.size≤k:=by
   intro u hu k hk;rcases hmk u hu k hk with h1|h1|h1
   ·exact .inl (.inr (.inr (.inl h1)))
   ·exact .inr (.inl (.inl h1))
   ·exact .inr (.inr (Nat.le_trans hsz h1))
  intro k hk;rcases hk with hk|hk|hk|hk|⟨u,hu,hk⟩|hk|⟨u,hu,hk⟩|hk|⟨i,hi,hk⟩
  ·exact hcb k (.inl hk)
  ·exact .inl (.inr (.inl hk))
  ·rcases hls k hk with hx|hx
   ·exact .inl (.inr (.inr (.inl hx)))
   ·exact .inr (.inr (Nat.le_trans hsz hx))
  ·exact .inl (.inr (.inr (.inr (.inl hk))))
  ·exact hcb k (.inr (.inr (.inr (.inr (.inl ⟨u,hu,hk⟩)))))
  ·exact .inl (.inr (.inr (.inr (.inr (.inr (.inl hk))))))
  ·rcases XaV hu with hu|rfl|rfl|rfl|rfl
   ·exact .inl (.inr (.inr (.inr (.inr (.inr (.inr (.inl ⟨u,hu,hk⟩)))))))
   ·exact hmk2 (u,ents.length) (by simp) k hk
   ·exact hmk2 (u,ents.length+1) (by simp) k hk
   ·exact hmk2 (u,ents.length+2) (by simp) k hk
   ·exact hmk2 (u,ents.length+3) (by simp) k hk
  ·exact .inl (.inr (.inr (.inr (.inr (.inr (.inr (.inr (.inl hk))))))))
  ·by_cases hlt2:i<b.el.length
   ·simp only[hlt2,if_true]at hk;exact .inl (.inr (.inr (.inr (.inr (.inr (.inr (.inr (.inr ⟨i,hlt2,hk⟩))))))))
   ·simp only[hlt2,if_false]at hk;exact .inr (.inr (by omega))
theorem Xbs {w:World}{wb:Nat}{hs ss v:Value}{b:Bk}{t:Told}(h:YY w wb hs ss b)(hv:ToldAt w 0 v t)(hA:Apart t)(hlt:∀x∈t,∀a,x.2.1=some a→a.block<w.heap.size∧¬b.blk a.block)(hvb:∀k,v.ownBlock=some k→¬b.blk k)
  (hN:b.eb.length+4*t.length≤4000000000000) (hn:∀x∈t,x.1.2.length≤1048576) (hF:b.ef.length≤1099511627776) (hT:t.length≤1099511627000):
  Calls Tryz.prog 70 #[.pointer (some ⟨wb,2,none⟩),v] w fun e w'=>e=.returned (.tuple #[])∧∃b':Bk,YY w' wb hs ss b'∧b'.eb.length=b.eb.length+4*t.length∧b'.ef.length=b.ef.length+4∧b'.el=b.el∧b'.ei=b.ei∧
   Xb (fun k=>k=wb∨b.blk k∨Qw v t k) w w'∧(∀ k,b'.blk k→b.blk k∨Qw v t k∨w.heap.size≤k):=by
 refine(XdX (QF wb b.fs v) (.inl rfl) (fun i hi=>.inr (.inl hi.symm)) (fun i hi=>.inr (.inr hi.symm)) h hv hA hlt hvb hN hn hF (by omega)).mono ?_;rintro e w' ⟨rfl,wr,c,fs',v1,v2,v3,M,K⟩;have hvlt:∀k,v.ownBlock=some k→k<w.heap.size:=fun k hk=>(hv.1.lt k hk).2
 have hfs:∀k,fs'.ownBlock=some k→b.fs.ownBlock=some k∨wr.heap.size≤k:=by
  intro k hk;rcases K.mineB k hk with(hx|hx|hx)|hx
  ·exfalso
   obtain⟨c,hc⟩:=Xd K.row hk;have h3:=K.head;unfold WAt at h3;rw[← hx,hc]at h3;simp at h3
  ·exact .inl hx.symm
  ·exfalso
   obtain⟨c,hc⟩:=Xd K.row hk;obtain⟨c2,hc2⟩:=Xd (K.marks (v,t.length) (by simp)) (k:=k) hx.symm;rw[hc]at hc2;simp at hc2
  ·exact .inr hx
 have hmk:∀u:Value×Nat,u∈ [(v,t.length),(v1,t.length+1),(v2,t.length+2),(v3,t.length+3)]→∀k,u.1.ownBlock=some k→b.blk k∨v.ownBlock=some k∨wr.heap.size≤k:=by
  intro u hu k hk;rcases K.mineU u hu k hk with(hx|hx|hx)|hx
  ·exfalso
   obtain⟨c,hc⟩:=Xd (K.marks u hu) hk;have h3:=K.head;unfold WAt at h3;rw[← hx,hc]at h3;simp at h3
  ·exact .inl (.inr (.inl hx.symm))
  ·exact .inr (.inl hx.symm)
  ·exact .inr (.inr hx)
 have hsz:=M.keeps.size
 have hno:∀k,c.blk k→b.fs.ownBlock≠some k→¬QF wb b.fs v k:=by
  rintro k hk hne (rfl|hx|hx)
  ·exact M.at_.Xbt hk
  ·exact hne hx.symm
  ·rcases M.blk k hk with h1|⟨x,hx2,a,ha,rfl⟩|h1
   ·exact hvb k hx.symm h1
   ·obtain ⟨f,p,cp⟩:=x;simp only at ha;subst ha;obtain⟨c1,hc1⟩:=Xd (hv.2 _ (List.mem_of_mem_take hx2)) (k:=a.block) rfl;obtain⟨c2,hc2⟩:=Xd hv.1 hx.symm;rw[hc1]at hc2;simp at hc2
   ·have:=hvlt k hx.symm;omega
 have hty:∀ {k:Nat} {cc:Array Value} {ty:TypeId},wr.heap[k]?=some (.cells cc ty (0,0))→ty≠63→b.fs.ownBlock≠some k:=by
  intro k cc ty hc ht hk;have hrf:=M.at_.rf;rw[M.fs]at hrf;obtain⟨c2,hc2⟩:=Xd hrf hk;rw[hc]at hc2;simp at hc2;exact ht hc2.2
 have hrow:∀ {k:Nat} {ty:TypeId} {sz m:Nat} {u:Value} {ys:List Value},wr.ownsRow 0 ty sz u m ys→u.ownBlock=some k→ty≠63→b.fs.ownBlock≠some k:=by
  intro k ty sz m u ys hr hk ht;obtain⟨cc,hc⟩:=Xd hr hk;exact hty hc ht
 have hA2:=M.at_;refine⟨rfl,⟨c.bs,fs',b.ls,b.is,c.eb,b.ef++[v,v1,v2,v3],b.el,b.ei,b.mg⟩,⟨K.head,?_,K.row,?_,?_,?_,?_,?_,?_,?_,hA2.fb,?_,h.fl,h.fi,?_⟩,by show c.eb.length=_;rw[M.len],by simp,rfl,rfl,?_,?_⟩
 ·exact Xc hA2.rb K.keeps fun k e=>hno k (.inl e) (hrow hA2.rb e (by decide))
 ·have q:=hA2.rl;have q2:∀k,c.ls.ownBlock=some k→¬QF wb b.fs v k:=fun k e=>hno k (.inr (.inr (.inl e))) (hrow hA2.rl e (by decide))
  rw[M.ls]at q q2;rw[M.el]at q;exact Xc q K.keeps q2
 ·have q:=hA2.ri;have q2:∀k,c.is.ownBlock=some k→¬QF wb b.fs v k:=fun k e=>hno k (.inr (.inr (.inr (.inl e)))) (hrow hA2.ri e (by decide))
  rw[M.is]at q q2;rw[M.ei]at q;exact Xc q K.keeps q2
 ·intro i u hi;obtain⟨m,hm,hm2⟩:=hA2.mb i u hi;exact⟨m,Xc hm K.keeps fun k e=>hno k (.inr (.inr (.inr (.inr (.inl ⟨u,Xl hi,e⟩))))) (hrow hm e (by decide)),hm2⟩
 ·intro i u hi;rcases XbL hi with⟨hlt,hi⟩|⟨j,hj,rfl,hi⟩
  ·rw[← M.ef]at hi;obtain⟨m,hm,hm2⟩:=hA2.mf i u hi;exact⟨m,Xc hm K.keeps fun k e=>hno k (.inr (.inr (.inr (.inr (.inr (.inl ⟨u,Xl hi,e⟩)))))) (hrow hm e (by decide)),hm2⟩
  ·rw[Xm0 h.ff j hj];have hc:j=0∨j=1∨j=2∨j=3:=by omega
   rcases hc with rfl|rfl|rfl|rfl <;>(simp at hi;subst hi)
   ·exact ⟨t.length,K.marks (v,t.length) (by simp),by omega⟩
   ·exact ⟨t.length+1,K.marks (v1,t.length+1) (by simp),by omega⟩
   ·exact ⟨t.length+2,K.marks (v2,t.length+2) (by simp),by omega⟩
   ·exact ⟨t.length+3,K.marks (v3,t.length+3) (by simp),by omega⟩
 ·intro i u hi;have hi2:c.el[i]?=some u:=by rw[M.el];exact hi
  obtain⟨m,hm,hm2⟩:=hA2.ml i u hi2;rw[M.mg]at hm;exact⟨m,Xc hm K.keeps fun k e=>hno k (.inr (.inr (.inr (.inr (.inr (.inr (.inl ⟨u,Xl hi2,e⟩))))))) (hrow hm e (by decide)),hm2⟩
 ·intro i u hi;have hi2:c.ei[i]?=some u:=by rw[M.ei];exact hi
  obtain⟨m,hm,hm2⟩:=hA2.mi i u hi2;exact⟨m,Xc hm K.keeps fun k e=>hno k (.inr (.inr (.inr (.inr (.inr (.inr (.inr (.inl ⟨u,Xl hi2,e⟩)))))))) (hrow hm e (by decide)),hm2⟩
 ·intro i hi;have hi2:i<c.el.length:=by rw[M.el];exact hi
  have ht:=hA2.two i hi2;have hq:=hno _ (.inr (.inr (.inr (.inr (.inr (.inr (.inr (.inr ⟨i,hi2,rfl⟩)))))))) (hty ht (by decide));rw[M.mg]at ht hq;unfold Z9 at ht⊢;rw[K.keeps.block _ (Array.getElem?_eq_some_iff.1 ht).1 hq];exact ht
 ·have:=h.ff;simp;omega
 ·intro u hu k hk;exact hA2.apart u (by rw[M.el];exact hu) k hk
 ·refine ⟨K.keeps.os.trans M.keeps.os,K.keeps.tape.trans M.keeps.tape,K.keeps.output.trans M.keeps.output,Nat.le_trans hsz K.keeps.size,fun k hk hx=> ?_⟩;rw[K.keeps.block k (by omega) ?_]
  ·exact M.keeps.block k hk hx
  ·rintro (rfl|hb|hb)
   ·exact hx (.inl rfl)
   ·exact hx (.inr (.inl (.inr (.inl hb.symm))))
   ·exact hx (.inr (.inr (.inl hb.symm)))
 ·have hcb:∀k,c.blk k→b.blk k∨Qw v t k∨w.heap.size≤k:=by
   intro k hk;rcases M.blk k hk with h1|⟨x,hx,a,ha,e⟩|h1
   ·exact .inl h1
   ·exact .inr (.inl (.inr ⟨x,List.mem_of_mem_take hx,a,ha,e⟩))
   ·exact .inr (.inr h1)
  have hmk2:∀u:Value×Nat,u∈ [(v,t.length),(v1,t.length+1),(v2,t.length+2),(v3,t.length+3)]→∀k,u.1.ownBlock=some k→b.blk k∨Qw v t k∨w.heap.size≤k:=by
   intro u hu k hk;rcases hmk u hu k hk with h1|h1|h1
   ·exact .inl h1
   ·exact .inr (.inl (.inl h1))
   ·exact .inr (.inr (Nat.le_trans hsz h1))
  intro k hk;rcases hk with hk|hk|hk|hk|⟨u,hu,hk⟩|⟨u,hu,hk⟩|hk|hk|hk
  ·exact hcb k (.inl hk)
  ·rcases hfs k hk with hx|hx
   ·exact .inl (.inr (.inl hx))
   ·exact .inr (.inr (Nat.le_trans hsz hx))
  ·exact .inl (.inr (.inr (.inl hk)))
  ·exact .inl (.inr (.inr (.inr (.inl hk))))
  ·exact hcb k (.inr (.inr (.inr (.inr (.inl ⟨u,hu,hk⟩)))))
  ·rcases XaV hu with hu|rfl|rfl|rfl|rfl
   ·exact .inl (.inr (.inr (.inr (.inr (.inr (.inl ⟨u,hu,hk⟩))))))
   ·exact hmk2 (u,t.length) (by simp) k hk
   ·exact hmk2 (u,t.length+1) (by simp) k hk
   ·exact hmk2 (u,t.length+2) (by simp) k hk
   ·exact hmk2 (u,t.length+3) (by simp) k hk
  ·exact .inl (.inr (.inr (.inr (.inr (.inr (.inr (.inl hk)))))))
  ·exact .inl (.inr (.inr (.inr (.inr (.inr (.inr (.inr (.inl hk))))))))
  ·exact .inl (.inr (.inr (.inr (.inr (.inr (.inr (.inr (.inr hk))))))))
end Go.Proofs.YtkalonhalhdlaaaGreatDoor
