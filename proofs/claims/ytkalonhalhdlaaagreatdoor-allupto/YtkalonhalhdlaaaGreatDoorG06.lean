import Derived.Test.YtkalonhalhdlaaaGreatDoorG05
set_option maxHeartbeats 8000000
set_option maxRecDepth 1000000
namespace Go.Proofs.YtkalonhalhdlaaaGreatDoor
open Go.RowKit
theorem Xoa:(Tryz.prog.info? 3).map (fun i=>(i.zero,i.size,i.bytes))=some (some (.int .i64 0),1,8):=by kernel_rfl
theorem XmP:(Tryz.prog.info? 62).map (fun i=>(i.zero,i.size,i.bytes))=some (some (.slice none 0 0),1,24):=by kernel_rfl
theorem XmR {wr:World}{g n cp k:Nat}{xs:List Value}{u:Value}(hk:k<n)
  (hv:wr.ownsRow 0 3 1 (.slice (some ⟨g,0,none⟩) n cp) n (XG [u] k++xs.drop k)) (hx:xs.length=n):
  (∃ x0,wr.cell? ⟨g,k,none⟩=some x0)∧(∀ i,wr.frozen? ⟨g,i,none⟩=false)∧(wr.setCell ⟨g,k,none⟩ u).ownsRow 0 3 1 (.slice (some ⟨g,0,none⟩) n cp) n (XG [u] (k+1)++xs.drop (k+1))∧Xb (· =g) wr (wr.setCell ⟨g,k,none⟩ u):=by
 have h1:=(hv.stored k u).1;rw[Xdp _ _ _ (by omega)]at h1;have hl:(XG [u] k++xs.drop k).length=n*1:=hv.1;obtain⟨x0,e0⟩:∃x0,(XG [u] k++xs.drop k)[k]?=some x0:=⟨_,List.getElem?_eq_getElem (by omega)⟩;have c0:=World.ownsRow.cells hv (g:=g) rfl k x0 e0;rw[Go.WideShapes.add_plain,Nat.zero_add]at c0;exact⟨⟨x0,c0⟩,fun i=>hv.frozenAt i,h1,(Xb.refl _ wr).setB _ _⟩
theorem Xfy {WA:World}{wb n:Nat}{hs ss v:Value}{b:Bk}{xs:List Value}(X:Nat→Prop)(hX:X wb)(hXF:∀i,b.is.ownBlock=some i→X i)(hXV:∀i,v.ownBlock=some i→X i)(h:YY WA wb hs ss b)(hv:WA.ownsRow 0 3 1 v n xs)
  (hF:b.ei.length≤1099511627776) (hT:n≤1099511627776):
  Calls Tryz.prog 50 #[.pointer (some ⟨wb,2,none⟩),v] WA fun e w'=>e=.returned (.tuple #[])∧∃is' v1 v2 v3,YV WA X wb w' #[hs,ss,b.bs,b.fs,b.ls,is'] 3 62 is' (b.ei++[v,v1,v2,v3]) (mkI b.ei.length) [(v,n),(v1,n+1),(v2,n+2),(v3,n+3)]:=by
 obtain⟨i0,hi,hz0,hz1,hz2⟩:=info_parts Xoa;obtain⟨i1,hi1,hy0,hy1,hy2⟩:=info_parts XmP;obtain⟨p,cp,rfl,hpg⟩:=Xf hv;have hxl:xs.length=n:=by have:=hv.1;omega
 obtain⟨fp,fc,hfs,_⟩:=Xf h.ri;have d5:=h.head.cell 5 _ rfl;rw[hfs]at d5 hXF;have hq4:=XeA b.ei.length;have HROW:Hid (WA.ownsRow 0 3 1 (.slice p n cp) n (XG (mkI b.ei.length) 0++xs.drop 0)):=hide (by simpa[XG]using hv);have hvrow:Hid (∀ i,some i=(Value.slice p n cp).ownBlock→∃cc,WA.heap[i]?=some (.cells cc 3 (0,0))):=hide fun i hi=>Xd hv hi.symm
 have hd0:=h.head;have hr0:=h.ri;rw[hfs]at hd0 hr0;have HHEAD:=hide hd0;have HFS:=hide hr0;clear h hv hd0 hr0 hfs;generalize b.bs=cbs at*;generalize b.fs=cfs at*;generalize b.ls=cls at*;go_enter Tryz.func50,Tryz.ntmps50
 go_wp2
 go_loopw [5] (fun i wq=>∃k:Nat,k≤n∧i=.int .i64 k∧wq.ownsRow 0 3 1 (.slice p n cp) n (XG (mkI b.ei.length) k++xs.drop k)∧Xb (fun k=>some k=(Value.slice p n cp).ownBlock) WA wq) (fun i _=>n -(intOf i).toNat)
 case atStart=>exact⟨0,Nat.zero_le _,rfl,Xa HROW,Xb.refl _ _⟩
 case round=>
  obtain⟨k,hk,rfl,hrow,hkp⟩:=hrel;clear HROW d5;by_cases hlt:k<n
  ·obtain ⟨g,rfl⟩:=hpg (by omega);obtain⟨⟨x0,c0⟩,f0,hst,hks⟩:=XmR hlt hrow hxl;have HS:Hid (_∧_):=hide (And.intro hst (hkp.trans (hks.mono (fun i hi=>by rw[hi];rfl))));clear hst hks hrow hkp;go_wp2
   go_roundw
   case rel=>
    obtain⟨q1,q2⟩:=Xa HS;exact⟨k+1,hlt,by go_num,q1,q2⟩
   case measure=>simp[intOf];omega
  ·have hkt:k=n:=by omega
   subst hkt;have hd:xs.drop k=[]:=List.drop_eq_nil_of_le (by omega);rw[hd,List.append_nil]at hrow;have hmk1:YB wr 3 (mkI b.ei.length) (.slice p k cp) k:=hrow
   have hhd:WAt wr wb #[hs,ss,cbs,cfs,cls,.slice fp b.ei.length fc]:=by
    have h1:=Xa HHEAD;refine h1.keeps hkp (fun hx=> ?_);obtain⟨cc,hc⟩:=Xa hvrow wb hx;unfold WAt at h1;rw[hc]at h1;simp at h1
   have hfr:wr.ownsRow 0 62 1 (.slice fp b.ei.length fc) b.ei.length b.ei:=by
    refine Xc (Xa HFS) hkp (fun i hi hx=> ?_);obtain⟨cc,hc⟩:=Xa hvrow i hx;obtain⟨c2,hc2⟩:=Xd (Xa HFS) hi;rw[hc]at hc2;simp at hc2
   have HK0:Hid (YV WA X wb wr #[hs,ss,cbs,cfs,cls,.slice fp b.ei.length fc] 3 62 (.slice fp b.ei.length fc) b.ei (mkI b.ei.length) [(.slice p k cp,k)]):=
    ⟨hhd,hfr,fun u hu=>by simp at hu;subst hu;exact hmk1,hkp.mono (fun i hi=>hXV i hi.symm),fun i hi=>.inl (hXF i hi),fun u hu=>by simp at hu;subst hu;exact fun i hi=>.inl (hXV i hi)⟩
   have HMV:Hid (Mine X WA.heap.size (.slice p k cp)):=fun i hi=>.inl (hXV i hi)
   have HM0:=hide hmk1;have hsz0:=(Xa HK0).keeps.size;have ho:∀u∈mkI b.ei.length,u.oneCell'=true:=by intro u hu;unfold mkI at hu;simp at hu;subst hu;rfl
   have hmk0:0<(mkI b.ei.length).length:=Nat.zero_lt_succ _;clear hmk1 hhd hfr hrow hkp hd HHEAD HFS hvrow;have HA1:=hide (World.ownsRow.alloc (Xa HM0) (.cells #[.int .i64 (-1000 -(b.ei.length:Int) / 4)] 3));go_wp2_with (at_builtin;refine XW _ rfl _ _ 62 rfl 3 i0 _ 8 (mkI b.ei.length) Tryz.underlying62 hi hz0 hz1 hz2 rfl hmk0 ho _ _ rfl (Xa HA1) ⟨wr.heap.size,0,none⟩ 1 1 (by decide) rfl ?m1c1 ?m1c2 ?m1c3 ?_)
   case m1c1=>first|exact QS wr (XG (mkI b.ei.length) 1) 3|exact fun j u hj=>hj
   case m1c2=>unfold maxLen;omega
   case m1c3=>omega
   intro v1 w1 hm1 hk1 hg1 hb1;have HK1:=hide ((Xa HK0).mark (by decide) (by decide) (Xa HM0) (Xa HMV) (by first|(simp;done)|(simp;omega)) hm1 hk1 hg1 (by rw[Xk];exact hb1));obtain⟨p1,cp1,rfl,_⟩:=Xf hm1;have HM1:=hide ((Xa HK1).marks (.slice p k cp,k) (by simp));have hsz1:=(Xa HK1).keeps.size;clear hm1 hk1 hg1 hb1 HA1 HM0 HK0;have HA2:=hide (World.ownsRow.alloc (Xa HM1) (.cells #[.int .i64 (-1000 -(b.ei.length:Int) / 4),.int .i64 (-1000 -(b.ei.length:Int) / 4)] 3));go_wp2_with (at_builtin;refine XW _ rfl _ _ 62 rfl 3 i0 _ 8 (mkI b.ei.length) Tryz.underlying62 hi hz0 hz1 hz2 rfl hmk0 ho _ _ rfl (Xa HA2) ⟨w1.heap.size,0,none⟩ 2 2 (by decide) rfl ?m2c1 ?m2c2 ?m2c3 ?_)
   case m2c1=>first|exact QS w1 (XG (mkI b.ei.length) 2) 3|exact fun j u hj=>hj
   case m2c2=>unfold maxLen;omega
   case m2c3=>omega
   intro v2 w2 hm2 hk2 hg2 hb2;have HK2:=hide ((Xa HK1).mark (by decide) (by decide) (Xa HM1) (Xa HMV) (by first|(simp;done)|(simp;omega)) hm2 hk2 hg2 (by rw[Xk];exact hb2));obtain⟨p2,cp2,rfl,_⟩:=Xf hm2;have HM2:=hide ((Xa HK2).marks (.slice p k cp,k) (by simp));have hsz2:=(Xa HK2).keeps.size;clear hm2 hk2 hg2 hb2 HA2 HM1 HK1;have HA3:=hide (World.ownsRow.alloc (Xa HM2) (.cells #[.int .i64 (-1000 -(b.ei.length:Int) / 4),.int .i64 (-1000 -(b.ei.length:Int) / 4),.int .i64 (-1000 -(b.ei.length:Int) / 4)] 3));go_wp2_with (at_builtin;refine XW _ rfl _ _ 62 rfl 3 i0 _ 8 (mkI b.ei.length) Tryz.underlying62 hi hz0 hz1 hz2 rfl hmk0 ho _ _ rfl (Xa HA3) ⟨w2.heap.size,0,none⟩ 3 3 (by decide) rfl ?m3c1 ?m3c2 ?m3c3 ?_)
   case m3c1=>first|exact QS w2 (XG (mkI b.ei.length) 3) 3|exact fun j u hj=>hj
   case m3c2=>unfold maxLen;omega
   case m3c3=>omega
   intro v3 w3 hm3 hk3 hg3 hb3;have HK3:=hide ((Xa HK2).mark (by decide) (by decide) (Xa HM2) (Xa HMV) (by first|(simp;done)|(simp;omega)) hm3 hk3 hg3 (by rw[Xk];exact hb3));obtain⟨p3,cp3,rfl,_⟩:=Xf hm3;have HM3:=hide ((Xa HK3).marks (.slice p k cp,k) (by simp));have hsz3:=(Xa HK3).keeps.size;clear hm3 hk3 hg3 hb3 HA3 HM2 HK2;have d0:=(Xa HK3).head.cell 5 _ rfl;have HB0:=hide (World.ownsRow.alloc (Xa HK3).row (.cells #[.slice p k cp] 62));go_wp2_with (at_builtin;refine wpList_append_own_at _ rfl _ _ 41 rfl 0 62 i1 _ 1 24 Tryz.underlying41 hi1 hy0 hy1 hy2 rfl (by decide) _ _ _ rfl (Xa HB0) ⟨w3.heap.size,0,none⟩ 1 1 [.slice p k cp] rfl rfl ?p0c1 ?p0c2 ?p0c3 ?p0c4 ?p0c5 ?_)
   case p0c2=>first|rfl|(intro u hu;simp at hu;subst hu;rfl)
   case p0c3=>unfold maxLen;first|omega|(simp;omega)
   case p0c4=>first|omega|(simp;omega)
   intro b0 y0 hown0 hg0 _ hb0;have hd0:=(Xa HK3).pushHead (by decide) hg0;have e0:=hd0.cell 5 _ rfl;have f0:=hd0.fz;have HP0:Hid (YV WA X wb (y0.setCell ⟨wb,5,none⟩ b0) #[hs,ss,cbs,cfs,cls,b0] 3 62 b0 (b.ei++[.slice p k cp]) (mkI b.ei.length) _):=(Xa HK3).push hX (by decide) (by decide) (by decide) (by simpa using hown0) hg0 hb0 (by omega) 5;obtain⟨bp0,bc0,rfl,_⟩:=Xf hown0;have hyz0:WA.heap.size≤y0.heap.size:=by have:=(Xa HP0).keeps.size;rwa [size_setCell]at this
   clear hown0 hg0 hb0 hd0 d0 HB0 HK3;have d1:=(Xa HP0).head.cell 5 _ rfl;have HB1:=hide (World.ownsRow.alloc (Xa HP0).row (.cells #[.slice p1 (k+1) cp1] 62));go_wp2_with (at_builtin;refine wpList_append_own_at _ rfl _ _ 41 rfl 0 62 i1 _ 1 24 Tryz.underlying41 hi1 hy0 hy1 hy2 rfl (by decide) _ _ _ rfl (Xa HB1) ⟨y0.heap.size,0,none⟩ 1 1 [.slice p1 (k+1) cp1] rfl rfl ?p1c1 ?p1c2 ?p1c3 ?p1c4 ?p1c5 ?_)
   case p1c1=>have q:=QR (y0.setCell ⟨wb,5,none⟩ (.slice bp0 (b.ei.length+1) bc0)) (.slice p1 (k+1) cp1) 62;rw[size_setCell]at q;exact q
   case p1c5=>exact Nat.zero_le _
   case p1c2=>first|rfl|(intro u hu;simp at hu;subst hu;rfl)
   case p1c3=>unfold maxLen;first|omega|(simp;omega)
   case p1c4=>first|omega|(simp;omega)
   intro b1 y1 hown1 hg1 _ hb1;have hd1:=(Xa HP0).pushHead (by decide) hg1;have e1:=hd1.cell 5 _ rfl;have f1:=hd1.fz;have HP1:Hid (YV WA X wb (y1.setCell ⟨wb,5,none⟩ b1) #[hs,ss,cbs,cfs,cls,b1] 3 62 b1 (b.ei++[.slice p k cp]++[.slice p1 (k+1) cp1]) (mkI b.ei.length) _):=(Xa HP0).push hX (by decide) (by decide) (by decide) (by simpa using hown1) hg1 hb1 (by omega) 5;obtain⟨bp1,bc1,rfl,_⟩:=Xf hown1;have hyz1:WA.heap.size≤y1.heap.size:=by have:=(Xa HP1).keeps.size;rwa [size_setCell]at this
   clear hown1 hg1 hb1 hd1 d1 HB1 HP0;have d2:=(Xa HP1).head.cell 5 _ rfl;have HB2:=hide (World.ownsRow.alloc (Xa HP1).row (.cells #[.slice p2 (k+2) cp2] 62));go_wp2_with (at_builtin;refine wpList_append_own_at _ rfl _ _ 41 rfl 0 62 i1 _ 1 24 Tryz.underlying41 hi1 hy0 hy1 hy2 rfl (by decide) _ _ _ rfl (Xa HB2) ⟨y1.heap.size,0,none⟩ 1 1 [.slice p2 (k+2) cp2] rfl rfl ?p2c1 ?p2c2 ?p2c3 ?p2c4 ?p2c5 ?_)
   case p2c1=>have q:=QR (y1.setCell ⟨wb,5,none⟩ (.slice bp1 (b.ei.length+2) bc1)) (.slice p2 (k+2) cp2) 62;rw[size_setCell]at q;exact q
   case p2c5=>exact Nat.zero_le _
   case p2c2=>first|rfl|(intro u hu;simp at hu;subst hu;rfl)
   case p2c3=>unfold maxLen;first|omega|(simp;omega)
   case p2c4=>first|omega|(simp;omega)
   intro b2 y2 hown2 hg2 _ hb2;have hd2:=(Xa HP1).pushHead (by decide) hg2;have e2:=hd2.cell 5 _ rfl;have f2:=hd2.fz;have HP2:Hid (YV WA X wb (y2.setCell ⟨wb,5,none⟩ b2) #[hs,ss,cbs,cfs,cls,b2] 3 62 b2 (b.ei++[.slice p k cp]++[.slice p1 (k+1) cp1]++[.slice p2 (k+2) cp2]) (mkI b.ei.length) _):=(Xa HP1).push hX (by decide) (by decide) (by decide) (by simpa using hown2) hg2 hb2 (by omega) 5;obtain⟨bp2,bc2,rfl,_⟩:=Xf hown2;have hyz2:WA.heap.size≤y2.heap.size:=by have:=(Xa HP2).keeps.size;rwa [size_setCell]at this
   clear hown2 hg2 hb2 hd2 d2 HB2 HP1;have d3:=(Xa HP2).head.cell 5 _ rfl;have HB3:=hide (World.ownsRow.alloc (Xa HP2).row (.cells #[.slice p3 (k+3) cp3] 62));go_wp2_with (at_builtin;refine wpList_append_own_at _ rfl _ _ 41 rfl 0 62 i1 _ 1 24 Tryz.underlying41 hi1 hy0 hy1 hy2 rfl (by decide) _ _ _ rfl (Xa HB3) ⟨y2.heap.size,0,none⟩ 1 1 [.slice p3 (k+3) cp3] rfl rfl ?p3c1 ?p3c2 ?p3c3 ?p3c4 ?p3c5 ?_)
   case p3c1=>have q:=QR (y2.setCell ⟨wb,5,none⟩ (.slice bp2 (b.ei.length+3) bc2)) (.slice p3 (k+3) cp3) 62;rw[size_setCell]at q;exact q
   case p3c5=>exact Nat.zero_le _
   case p3c2=>first|rfl|(intro u hu;simp at hu;subst hu;rfl)
   case p3c3=>unfold maxLen;first|omega|(simp;omega)
   case p3c4=>first|omega|(simp;omega)
   intro b3 y3 hown3 hg3 _ hb3;have hd3:=(Xa HP2).pushHead (by decide) hg3;have e3:=hd3.cell 5 _ rfl;have f3:=hd3.fz;have HP3:Hid (YV WA X wb (y3.setCell ⟨wb,5,none⟩ b3) #[hs,ss,cbs,cfs,cls,b3] 3 62 b3 (b.ei++[.slice p k cp]++[.slice p1 (k+1) cp1]++[.slice p2 (k+2) cp2]++[.slice p3 (k+3) cp3]) (mkI b.ei.length) _):=(Xa HP2).push hX (by decide) (by decide) (by decide) (by simpa using hown3) hg3 hb3 (by omega) 5;obtain⟨bp3,bc3,rfl,_⟩:=Xf hown3;have hyz3:WA.heap.size≤y3.heap.size:=by have:=(Xa HP3).keeps.size;rwa [size_setCell]at this
   clear hown3 hg3 hb3 hd3 d3 HB3 HP2;go_wp2
   have q:=Xa HP3;simp only[List.append_assoc,List.cons_append,List.nil_append]at q;go_end0
   exact⟨rfl,_,_,_,_,q⟩
theorem XgG {w:World}{wb:Nat}{hs ss v:Value}{b:Bk}{xs:List Value}{n:Nat}(h:YY w wb hs ss b)(hv:w.ownsRow 0 3 1 v n xs)(hvb:∀k,v.ownBlock=some k→¬b.blk k)(hN:b.ei.length≤1099511627776)(hn:n≤1099511627000):
  Calls Tryz.prog 50 #[.pointer (some ⟨wb,2,none⟩),v] w fun e w'=>e=.returned (.tuple #[])∧∃b':Bk,YY w' wb hs ss b'∧b'.ei.length=b.ei.length+4∧b'.eb=b.eb∧b'.ef=b.ef∧b'.el=b.el∧Xb (QF wb b.is v) w w'∧(∀ k,b'.blk k→b.blk k∨v.ownBlock=some k∨w.heap.size≤k):=by
 refine(Xfy (QF wb b.is v) (.inl rfl) (fun i hi=>.inr (.inl hi.symm)) (fun i hi=>.inr (.inr hi.symm)) h hv hN (by omega)).mono ?_;rintro e w' ⟨rfl,is',v1,v2,v3,K⟩
 have his:∀k,is'.ownBlock=some k→b.is.ownBlock=some k∨w.heap.size≤k:=by
  intro k hk;rcases K.mineB k hk with(hx|hx|hx)|hx
  ·exfalso
   obtain⟨c,hc⟩:=Xd K.row hk;have h3:=K.head;unfold WAt at h3;rw[← hx,hc]at h3;simp at h3
  ·exact .inl hx.symm
  ·exfalso
   obtain⟨c,hc⟩:=Xd K.row hk;obtain⟨c2,hc2⟩:=Xd (K.marks (v,n) (by simp)) (k:=k) hx.symm;rw[hc]at hc2;simp at hc2
  ·exact .inr hx
 have hmk:∀u:Value×Nat,u∈ [(v,n),(v1,n+1),(v2,n+2),(v3,n+3)]→∀k,u.1.ownBlock=some k→b.blk k∨v.ownBlock=some k∨w.heap.size≤k:=by
  intro u hu k hk;rcases K.mineU u hu k hk with(hx|hx|hx)|hx
  ·exfalso
   obtain⟨c,hc⟩:=Xd (K.marks u hu) hk;have h3:=K.head;unfold WAt at h3;rw[← hx,hc]at h3;simp at h3
  ·exact .inl (.inr (.inr (.inr (.inl hx.symm))))
  ·exact .inr (.inl hx.symm)
  ·exact .inr (.inr hx)
 have hno:∀k,b.blk k→b.is.ownBlock≠some k→¬QF wb b.is v k:=by
  rintro k hk hne (rfl|hx|hx)
  ·exact h.Xbt hk
  ·exact hne hx.symm
  ·exact hvb k hx.symm hk
 have hty:∀ {k:Nat} {c:Array Value} {t:TypeId},w.heap[k]?=some (.cells c t (0,0))→t≠62→b.is.ownBlock≠some k:=by
  intro k c t hc ht hk;obtain⟨c2,hc2⟩:=Xd h.ri hk;rw[hc]at hc2;simp at hc2;exact ht hc2.2
 have hrow:∀ {k:Nat} {t:TypeId} {sz m:Nat} {u:Value} {ys:List Value},w.ownsRow 0 t sz u m ys→u.ownBlock=some k→t≠62→b.is.ownBlock≠some k:=by
  intro k t sz m u ys hr hk ht;obtain⟨c,hc⟩:=Xd hr hk;exact hty hc ht
 refine⟨rfl,⟨b.bs,b.fs,b.ls,is',b.eb,b.ef,b.el,b.ei++[v,v1,v2,v3],b.mg⟩,⟨K.head,?_,?_,?_,K.row,?_,?_,?_,?_,?_,h.fb,h.ff,h.fl,?_,h.apart⟩,by simp,rfl,rfl,rfl,K.keeps,?_⟩
 ·exact Xc h.rb K.keeps fun k e=>hno k (.inl e) (hrow h.rb e (by decide))
 ·exact Xc h.rf K.keeps fun k e=>hno k (.inr (.inl e)) (hrow h.rf e (by decide))
 ·exact Xc h.rl K.keeps fun k e=>hno k (.inr (.inr (.inl e))) (hrow h.rl e (by decide))
 ·intro i u hi;obtain⟨m,hm,hm2⟩:=h.mb i u hi;exact⟨m,Xc hm K.keeps fun k e=>hno k (.inr (.inr (.inr (.inr (.inl ⟨u,Xl hi,e⟩))))) (hrow hm e (by decide)),hm2⟩
 ·intro i u hi;obtain⟨m,hm,hm2⟩:=h.mf i u hi;exact⟨m,Xc hm K.keeps fun k e=>hno k (.inr (.inr (.inr (.inr (.inr (.inl ⟨u,Xl hi,e⟩)))))) (hrow hm e (by decide)),hm2⟩
 ·intro i u hi;obtain⟨m,hm,hm2⟩:=h.ml i u hi;exact⟨m,Xc hm K.keeps fun k e=>hno k (.inr (.inr (.inr (.inr (.inr (.inr (.inl ⟨u,Xl hi,e⟩))))))) (hrow hm e (by decide)),hm2⟩
 ·intro i u hi;rcases XbL hi with⟨hlt,hi⟩|⟨j,hj,rfl,hi⟩
  ·obtain ⟨m,hm,hm2⟩:=h.mi i u hi;exact⟨m,Xc hm K.keeps fun k e=>hno k (.inr (.inr (.inr (.inr (.inr (.inr (.inr (.inl ⟨u,Xl hi,e⟩)))))))) (hrow hm e (by decide)),hm2⟩
  ·rw[Xm1 h.fi j hj];have hc:j=0∨j=1∨j=2∨j=3:=by omega
   rcases hc with rfl|rfl|rfl|rfl <;>(simp at hi;subst hi)
   ·exact ⟨n,K.marks (v,n) (by simp),by omega⟩
   ·exact ⟨n+1,K.marks (v1,n+1) (by simp),by omega⟩
   ·exact ⟨n+2,K.marks (v2,n+2) (by simp),by omega⟩
   ·exact ⟨n+3,K.marks (v3,n+3) (by simp),by omega⟩
 ·intro i hi;have ht:=h.two i hi;unfold Z9 at ht⊢;rw[K.keeps.block _ (Array.getElem?_eq_some_iff.1 ht).1 (hno _ (.inr (.inr (.inr (.inr (.inr (.inr (.inr (.inr ⟨i,hi,rfl⟩)))))))) (hty ht (by decide)))];exact ht
 ·have:=h.fi;simp;omega
 ·intro k hk;rcases hk with hk|hk|hk|hk|hk|hk|hk|⟨u,hu,hk⟩|hk
  ·exact .inl (.inl hk)
  ·exact .inl (.inr (.inl hk))
  ·exact .inl (.inr (.inr (.inl hk)))
  ·rcases his k hk with hx|hx
   ·exact .inl (.inr (.inr (.inr (.inl hx))))
   ·exact .inr (.inr hx)
  ·exact .inl (.inr (.inr (.inr (.inr (.inl hk)))))
  ·exact .inl (.inr (.inr (.inr (.inr (.inr (.inl hk))))))
  ·exact .inl (.inr (.inr (.inr (.inr (.inr (.inr (.inl hk)))))))
  ·rcases XaV hu with hu|rfl|rfl|rfl|rfl
   ·exact .inl (.inr (.inr (.inr (.inr (.inr (.inr (.inr (.inl ⟨u,hu,hk⟩))))))))
   ·exact hmk (u,n) (by simp) k hk
   ·exact hmk (u,n+1) (by simp) k hk
   ·exact hmk (u,n+2) (by simp) k hk
   ·exact hmk (u,n+3) (by simp) k hk
  ·exact .inl (.inr (.inr (.inr (.inr (.inr (.inr (.inr (.inr hk))))))))
end Go.Proofs.YtkalonhalhdlaaaGreatDoor
namespace Go.Proofs.YtkalonhalhdlaaaGreatDoor
theorem XhE (n:Nat):JB (ZA n)+1=ZA (n+1):=by
 unfold JB ZA;split <;> split <;> split at* <;> omega
theorem XkJ (n:Nat)(h:n<528):JB (ZA n)=n:=by
 unfold JB ZA;split <;> split at* <;> omega
theorem Xfo (n:Nat)(h:528≤n):¬JB (ZA n) / 8<66:=by
 unfold JB ZA;split <;> split at* <;> omega
theorem XlE (x:UInt8)(b:Bool):(shB x b).toNat=x.toNat / 2+(if b then 128 else 0):=by
 have hx:x.toNat<256:=x.toNat_lt;unfold shB;cases b <;> simp <;> omega
theorem Xnb (x:Nat)(l:List Bool)(b:Bool)(hl:l.length<8)(h:x / 2 ^ (8-l.length)=val l):
  (x / 2+(if b then 128 else 0)) / 2 ^ (8 -(l.length+1))=val (l++[b]):=by
 have e1:8-l.length=(8 -(l.length+1))+1:=by omega
 have e2:128=2 ^ (8 -(l.length+1))*2 ^ l.length:=by
  rw[← Nat.pow_add];have:8 -(l.length+1)+l.length=7:=by omega
  rw[this]
 have hp:0<2 ^ (8 -(l.length+1)):=Nat.pow_pos (by omega);rw[e1,Nat.pow_succ,Nat.mul_comm,←Nat.div_div_eq_div_mul]at h;rw[val_append];cases b
 ·rw[show(if false=true then 128 else 0)=0 from rfl,Nat.add_zero,h];simp[val]
 ·simp only[if_true,val];rw[e2,Nat.add_mul_div_left _ _ hp,h];omega
theorem XcA {α:Type}(l:List α)(x:α)(k n:Nat)(h:k+n≤l.length):((l++[x]).drop k).take n=(l.drop k).take n:=by
 rw[List.drop_append_of_le_length (by omega),List.take_append_of_le_length (by simp;omega)]
theorem XfX (h:HS)(has:List Bool)(b:Bool)(hon:h.on=true)(hh:h.held.length=66)(r:Rep h has):Rep (ZE h b) (has++[b])∧(ZE h b).held.length=66:=by
 obtain⟨r1,r2⟩:=r;have hst:=XhE has.length;unfold ZE;rw[if_pos hon,r1];by_cases hlt:has.length<528
 ·have ha:=XkJ has.length hlt;rw[ha];rw[ha]at hst;rw[if_pos (by omega)];refine⟨⟨by simp only[List.length_append,List.length_singleton];exact hst,?_⟩,by simp[hh]⟩;intro i hi h8;simp only[List.length_append,List.length_singleton]at h8⊢;by_cases hie:i=has.length / 8
  ·have hset:(h.held.set (has.length / 8) (shB (h.held.getD (has.length / 8) 0) b)).getD i 0=shB (h.held.getD i 0) b:=by
    rw[hie];simp only[List.getD];rw[List.getElem?_set_self (by rw[hh];omega)];rfl
   rw[hset,XlE];have h9:8*i≤has.length:=by omega
   have hr:=r2 i hi h9;have htl:(has.drop (8*i)).length<8:=by simp;omega
   rw[List.take_of_length_le (by omega)]at hr;have e1:min 8 (has.length-8*i)=(has.drop (8*i)).length:=by simp;omega
   have e2:min 8 (has.length+1-8*i)=(has.drop (8*i)).length+1:=by simp;omega
   rw[e1]at hr;rw[e2];have:=Xnb _ _ b htl hr;rw[this,List.drop_append_of_le_length h9,List.take_of_length_le (by simp at htl ⊢;omega)]
  ·have hset:(h.held.set (has.length / 8) (shB (h.held.getD (has.length / 8) 0) b)).getD i 0=h.held.getD i 0:=by
    simp only[List.getD];rw[List.getElem?_set_ne (by omega)]
   rw[hset];by_cases hlo:8*i+8≤has.length
   ·have hr:=r2 i hi (by omega);have e1:min 8 (has.length-8*i)=8:=by omega
    have e2:min 8 (has.length+1-8*i)=8:=by omega
    rw[e1]at hr;rw[e2,hr,XcA _ _ _ _ (by omega)]
   ·have e0:8*i=has.length+1:=by omega
    have e2:min 8 (has.length+1-8*i)=0:=by omega
    have hx:(h.held.getD i 0).toNat<256:=UInt8.toNat_lt _;have e3:((has++[b]).drop (8*i))=[]:=List.drop_eq_nil_of_le (by simp;omega);rw[e2,e3];simp[val];simpa using hx
 ·rw[if_neg (Xfo _ (by omega))];refine⟨⟨by simp only[List.length_append,List.length_singleton];exact hst,?_⟩,hh⟩;intro i hi h8;simp only[List.length_append,List.length_singleton];have hr:=r2 i hi (by omega);have e1:min 8 (has.length-8*i)=8:=by omega
  have e2:min 8 (has.length+1-8*i)=8:=by omega
  rw[e1]at hr;rw[e2,hr,XcA _ _ _ _ (by omega)]
theorem XfD {l m:List UInt8}(hl:l.length=m.length)(h:∀i,i<l.length→l.getD i 0=m.getD i 0):l=m:=by
 apply List.ext_getElem hl
 intro i h1 h2;have:=h i h1;simpa[List.getD,h1,h2]using this
theorem Xe5 (h:HS)(has:List Bool)(hh:h.held.length=66)(r:Rep h has)(n:Nat)(hn:n≤66)(hb:8*n≤has.length):h.held.take n=Yd n has:=by
 apply XfD
 ·rw[Zk];simp;omega
 ·intro i hi;simp at hi;rw[Xd4 n has i (by omega)];have hr:=r.2 i (by omega) (by omega);have e1:min 8 (has.length-8*i)=8:=by omega
  rw[e1]at hr;simp at hr;have hlt:i<h.held.length:=by omega
  rw[← hr];simp[List.getD,hlt,show i<n by omega]
theorem XjG (n:Nat)(l:List Bool)(m:Nat)(h:8*n≤m):Yd n (l.take m)=Yd n l:=by
 induction n generalizing l m with
 |zero=>rfl
 |succ n ih=>
  simp only[Yd];rw[List.take_take,Nat.min_eq_left (by omega),List.drop_take,ih _ _ (by omega)]
theorem Xj3 (n m:Nat)(l:List Bool)(h:m≤n):(Yd n l).take m=Yd m l:=by
 induction m generalizing n l with
 |zero=>simp[Yd]
 |succ m ih=>
  obtain⟨n,rfl⟩:∃k,n=k+1:=⟨n-1,by omega⟩;simp only[Yd,List.take_succ_cons];rw[ih n _ (by omega)]
theorem Xk1 (h:HS)(has:List Bool)(hh:h.held.length=66)(r:Rep h has)(h6:6<has.length):YS h.held (h.len-6)=Yg (has.take (has.length-6)):=by
 have hl:(has.take (has.length-6)).length=has.length-6:=by simp
 rw[r.1];by_cases hlt:has.length<535
 ·have e:ZA has.length=has.length:=by unfold ZA;rw[if_pos hlt]
  rw[e];unfold YS Yg;rw[hl];by_cases a1:has.length-6<32
  ·rw[if_pos a1,if_pos a1]
  rw[if_neg a1,if_neg a1];by_cases a2:(has.length-6)%8≠0
  ·rw[if_pos a2,if_pos a2]
  rw[if_neg a2,if_neg a2];have a3:¬528<has.length-6:=by omega
  rw[if_neg a3,if_neg a3];have p1:=Xe5 h has hh r ((has.length-6) / 8) (by omega) (by omega);have p2:h.held.take ((has.length-6) / 8-2)=Yd ((has.length-6) / 8-2) has:=Xe5 h has hh r _ (by omega) (by omega);rw[p1,p2,XjG _ _ _ (by omega),Xj3 _ _ _ (by omega)]
 ·have e:ZA has.length=535+(has.length-535)%8:=by unfold ZA;rw[if_neg hlt]
  rw[e];unfold YS Yg;rw[hl];have b1:¬535+(has.length-535)%8-6<32:=by omega
  have c1:¬has.length-6<32:=by omega
  rw[if_neg b1,if_neg c1];by_cases a2:(has.length-6)%8≠0
  ·have b2:(535+(has.length-535)%8-6)%8≠0:=by omega
   rw[if_pos b2,if_pos a2]
  ·have b2:¬(535+(has.length-535)%8-6)%8≠0:=by omega
   have b3:528<535+(has.length-535)%8-6:=by omega
   have c3:528<has.length-6:=by omega
   rw[if_neg b2,if_neg a2,if_pos b3,if_pos c3]
theorem J8 (n:Nat):6<ZA n↔6<n:=by
 unfold ZA;split <;> omega
theorem Xoo (h:HS)(hl:h.len=0):Rep h []:=by
 refine⟨by rw[hl];simp[ZA],?_⟩;intro i _ h8;simp at h8;have h0:i=0:=by omega
 subst h0;have:(h.held.getD 0 0).toNat<256:=UInt8.toNat_lt _;simp[val];simpa using this
theorem Xnl (h:HS)(s:IH)(b:Bool)(k:Sim h s):Sim (Yx h b).1 (Ya s b).1∧(Yx h b).2=(Ya s b).2:=by
 obtain⟨k1,k2,k3,k4,k5,k6⟩:=k;cases b
 ·-- a nought
  unfold Yx Ya;simp only[Bool.false_eq_true,if_false];by_cases c6:s.c=6
  ·have o6:h.ones=6:=by omega
   simp only[Yz,if_pos o6,if_pos c6,Qq];refine⟨⟨rfl,rfl,by simp,k4,fun _=>Xoo _ rfl,fun hh=>by simp at hh⟩,?_⟩;by_cases hon:s.on=true
   ·have r:=k5 hon;by_cases h6:6<s.has.length
    ·rw[if_pos ⟨by rw[k1];exact hon,by rw[r.1];exact(J8 _).2 h6⟩,if_pos ⟨hon,h6⟩,Xk1 h _ k4 r h6]
    ·rw[if_neg (fun hh=>h6 ((J8 _).1 (r.1▸hh.2))),if_neg (fun hh=>h6 hh.2)]
   ·rw[if_neg (fun hh=>hon (k1▸hh.1)),if_neg (fun hh=>hon hh.1)]
  ·by_cases c5:s.c=5
   ·have o5:h.ones=5:=by omega
    simp only[Yz,o5,c5];simp;exact⟨k1,rfl,by simp,k4,k5,k6⟩
   ·have o6:¬h.ones=6:=by omega
    have o5:¬h.ones=5:=by omega
    simp only[Yz,if_neg o6,if_neg o5,if_neg c6,if_neg c5];refine⟨?_,trivial⟩;by_cases hon:s.on=true
    ·have hon':h.on=true:=by rw[k1];exact hon
     have r:=XfX h s.has false hon' k4 (k5 hon);refine⟨by simp[ZE,hon',hon],rfl,by simp,r.2,fun _=> ?_,fun hh=>by simp[hon]at hh⟩;rw[if_pos hon];exact r.1
    ·have hoff:s.on=false:=by simpa using hon
     have hon':h.on=false:=by rw[k1];exact hoff
     have e:ZE h false=h:=by simp[ZE,hon']
     rw[e];refine⟨k1,rfl,by simp,k4,fun hh=>absurd hh hon,fun _=>by rw[if_neg hon];exact k6 hoff⟩
 ·-- a one
  unfold Yx Ya;simp only[if_true,Z5,Xbf];by_cases c6:s.c=6
  ·have o6:h.ones=6:=by omega
   have e7:(upH h).ones=7:=by simp[upH,o6]
   rw[if_pos e7,if_pos c6];refine⟨⟨rfl,e7,by simp,k4,fun hh=>by simp at hh,fun _=>rfl⟩,?_⟩;simp only[Zb];by_cases hon:s.on=true
   ·have r:=k5 hon;have e1:(upH h).len=ZA s.has.length:=r.1;have e2:(upH h).on=true:=by show h.on=true;rw[k1];exact hon
    by_cases h6:6<s.has.length
    ·rw[if_pos ⟨e2,by rw[e1];exact(J8 _).2 h6⟩,if_pos ⟨hon,h6⟩]
    ·rw[if_neg (fun hh=>h6 ((J8 _).1 (e1▸hh.2))),if_neg (fun hh=>h6 hh.2)]
   ·have e2:(upH h).on=s.on:=k1;rw[if_neg (fun hh=>hon (e2▸hh.1)),if_neg (fun hh=>hon hh.1)]
  ·by_cases c7:s.c=7
   ·have o7:h.ones=7:=by omega
    have e7:(upH h).ones=7:=by simp[upH,o7]
    rw[if_pos e7,if_neg c6,if_pos c7];refine⟨⟨rfl,e7,by simp,k4,fun hh=>by simp at hh,fun _=>rfl⟩,?_⟩;simp only[Zb];by_cases hon:s.on=true
    ·have r:=k5 hon;have e1:(upH h).len=ZA s.has.length:=r.1;have e2:(upH h).on=true:=by show h.on=true;rw[k1];exact hon
     by_cases h6:6<s.has.length
     ·rw[if_pos ⟨e2,by rw[e1];exact(J8 _).2 h6⟩,if_pos ⟨hon,h6⟩]
     ·rw[if_neg (fun hh=>h6 ((J8 _).1 (e1▸hh.2))),if_neg (fun hh=>h6 hh.2)]
    ·have e2:(upH h).on=s.on:=k1;rw[if_neg (fun hh=>hon (e2▸hh.1)),if_neg (fun hh=>hon hh.1)]
   ·have e1:(upH h).ones=s.c+1:=by simp only[upH];rw[if_pos (by omega)];omega
    rw[if_neg (by omega),if_neg c6,if_neg c7];by_cases h5:s.c+1≤5
    ·rw[if_pos (by omega)];refine⟨?_,rfl⟩;by_cases hon:s.on=true
     ·have hon':(upH h).on=true:=by show h.on=true;rw[k1];exact hon
      have r:=XfX (upH h) s.has true hon' k4 (k5 hon);refine⟨?_,?_,by simp;omega,r.2,fun _=> ?_,fun hh=>by simp[hon]at hh⟩
      ·simp only[ZE,if_pos hon'];exact hon'.trans hon.symm
      ·simp only[ZE,if_pos hon'];exact e1
      ·rw[if_pos ⟨hon,h5⟩];exact r.1
     ·have hoff:s.on=false:=by simpa using hon
      have hon':(upH h).on=false:=by show h.on=false;rw[k1];exact hoff
      have e:ZE (upH h) true=upH h:=by simp[ZE,hon']
      rw[e];exact⟨k1,e1,by simp;omega,k4,fun hh=>absurd hh hon,fun _=>by rw[if_neg (fun hh=>hon hh.1)];exact k6 hoff⟩
    ·rw[if_neg (by omega)];refine⟨⟨k1,e1,by simp;omega,k4,fun hh=> ?_,fun hh=> ?_⟩,rfl⟩
     ·rw[if_neg (fun q=>h5 q.2)];exact k5 hh
     ·rw[if_neg (fun q=>h5 q.2)];exact k6 hh
theorem Xnk (h:HS)(s:IH)(l:List Bool)(k:Sim h s):Sim (Yv h l).1 (Yp s l).1∧(Yv h l).2=(Yp s l).2:=by
 induction l generalizing h s with
 |nil=>exact⟨k,rfl⟩
 |cons b r ih=>
  obtain⟨q1,q2⟩:=Xnl h s b k;obtain⟨i1,i2⟩:=ih _ _ q1;exact⟨i1,by simp only[Yv,Yp];rw[q2,i2]⟩
end Go.Proofs.YtkalonhalhdlaaaGreatDoor
namespace Go.Proofs.YtkalonhalhdlaaaGreatDoor
open Go.RowKit
theorem XoC (c:Nat)(hc:c<65536):bits .xor .i64 ((c:Int) / 2) 33800=((c / 2 ^^^ 33800:Nat):Int):=by
 have hx:=Xhz c hc;have e:((c:Int) / 2)=((c / 2:Nat):Int):=by omega
 have e2:(33800:Int)=((33800:Nat):Int):=rfl;rw[e,e2];show IntKind.i64.wrap ((BitVec.ofInt 64 ((c / 2:Nat):Int) ^^^ BitVec.ofInt 64 ((33800:Nat):Int)).toNat:Int)=_
 rw[BitVec.toNat_xor,ofInt_u64 (c / 2) (by omega),ofInt_u64 33800 (by omega),IntKind.wrap_i64];omega
theorem XbR (b off cap:Nat)(l:List UInt8)(w:World)(hl:l.length≤maxLen)(hc:Seg w b off l):
  Calls Tryz.prog 27 #[.slice (some ⟨b,off,none⟩) l.length cap] w fun e w'=>e=.returned (.int .i64 (ZQ l))∧w'=w:=by
 unfold maxLen at hl;go_enter Tryz.func27,Tryz.ntmps27
 go_wp2
 go_loop [3,4] (fun s i=>∃(k c:Nat),k≤l.length∧c<65536∧i=.int .i64 k∧s=.int .i64 c∧Qj c (l.drop k)=Qj ZY l) (fun _ i=>l.length -(intOf i).toNat)
 case atStart=>exact⟨0,ZY,Nat.zero_le _,XeX,rfl,rfl,rfl⟩
 case round=>
  obtain⟨k,c,hk,hc16,rfl,rfl,hcrc⟩:=hrel;by_cases hlt:k<l.length
  ·have hcell:=hc k hlt
   have hdrop:Hid (l.drop k=l.getD k 0::l.drop (k+1)):=by
    show l.drop k=l.getD k 0::l.drop (k+1)
    rw[List.drop_eq_getElem_cons hlt];simp[List.getD,hlt]
   generalize hx:l.getD k 0=x at hcell hdrop;have hx8:x.toNat<256:=x.toNat_lt;clear hx;have HC:Hid (Qj c (l.drop k)=Qj ZY l):=hcrc;clear hcrc;go_wp2
   go_loop [3,5,6] (fun s x' i=>∃(j d y:Nat),j≤8∧d<65536∧y<256∧i=.int .i64 j∧s=.int .i64 d∧x'=.int .i64 y∧QV (8-j) d y=QV 8 c x.toNat) (fun _ _ i=>8 -(intOf i).toNat)
   case atStart=>exact⟨0,c,x.toNat,by omega,hc16,hx8,rfl,rfl,rfl,rfl⟩
   case round=>
    obtain⟨j,d,y,hj,hd,hy,rfl,rfl,rfl,hcn⟩:=hrel;have HN:Hid (QV (8-j) d y=QV 8 c x.toNat):=hcn;clear hcn;by_cases hj8:j<8
    ·have hxc:=XoC d hd;have e8:Hid (8-j=(8 -(j+1))+1):=by show 8-j=(8 -(j+1))+1;omega
     by_cases hdm:d%2=y%2
     ·have h1:((d:Int)%2 !=(y:Int)%2)=false:=by simp;omega
      clear hxc;have HM:Hid (Jy d y=d / 2):=by show Jy d y=d / 2;simp[Jy,hdm]
      clear hdm;go_wp2
      go_round
      case rel=>
       refine⟨j+1,d / 2,y / 2,by omega,by omega,by omega,by go_num,by go_num,by go_num,?_⟩;rw[← HN.out,e8.out,QV,HM.out]
      case measure=>simp[intOf];omega
     ·have h1:((d:Int)%2 !=(y:Int)%2)=true:=by simp;omega
      have HM:Hid (Jy d y=d / 2 ^^^ 33800):=by show Jy d y=d / 2 ^^^ 33800;simp[Jy,hdm]
      have HX:Hid (bits .xor .i64 ((d:Int) / 2) 33800=((d / 2 ^^^ 33800:Nat):Int)):=hxc;clear hdm hxc;go_wp2
      go_round
      case rel=>
       refine⟨j+1,d / 2 ^^^ 33800,y / 2,by omega,Xhz d hd,by omega,by go_num,?_,by go_num,?_⟩
       ·rw[HX.out]
       ·rw[← HN.out,e8.out,QV,HM.out]
      case measure=>simp[intOf];omega
    ·have e0:j=8:=by omega
     subst e0;go_wp2
     go_round
     case rel=>
      refine⟨k+1,d,by omega,hd,by go_num,rfl,?_⟩;have h1:d=QV 8 c x.toNat:=HN.out;have h2:Qj c (x::l.drop (k+1))=Qj ZY l:=hdrop.out▸HC.out;exact(congrArg (fun z=>Qj z (List.drop (k+1) l)) h1).trans h2
     case measure=>simp[intOf];omega
  ·have HS:Hid (ZQ l=65535-c):=XiS l k c (by omega) hcrc;clear hcrc;go_wp2
   go_ret
   refine⟨YI ?_,rfl⟩;rw[HS.out];omega
def XbC (w:World)(b:Nat)(l:List Bool):Prop:=∀i,i<l.length→w.cell? ⟨b,i,none⟩=some (.bool (l.getD i false))
def cvL (l:List Bool)(i j:Nat):Nat:=val (((l.take i).drop (8*j)).take 8)
theorem XaT (l:List Bool)(i j:Nat):cvL l i j<256:=by
 have h:=Xmf (((l.take i).drop (8*j)).take 8);have h2:(((l.take i).drop (8*j)).take 8).length≤8:=List.length_take_le _ _;have h3:2 ^ (((l.take i).drop (8*j)).take 8).length≤2 ^ 8:=Nat.pow_le_pow_right (by omega) h2;unfold cvL;omega
theorem XmB (l:List Bool)(j:Nat):cvL l 0 j=0:=by simp[cvL,val]
theorem XeY (l:List Bool)(i j:Nat)(hi:i<l.length)(h:j≠i / 8):cvL l (i+1) j=cvL l i j:=by
 unfold cvL;rw[List.take_succ_eq_append_getElem hi];have hl:(l.take i).length=i:=by simp;omega
 rcases Nat.lt_or_ge j (i / 8)with h1|h1
 ·rw[XcA _ _ _ _ (by omega)]
 ·rw[List.drop_eq_nil_of_le (by simp;omega),List.drop_eq_nil_of_le (by omega)]
theorem Xdb (l:List Bool)(i:Nat)(hi:i<l.length):cvL l (i+1) (i / 8)=cvL l i (i / 8)+(if l[i]then 2 ^ (i%8)else 0):=by
 unfold cvL;rw[List.take_succ_eq_append_getElem hi];have hl:(l.take i).length=i:=by simp;omega
 have hd:((l.take i).drop (8*(i / 8))).length=i%8:=by rw[List.length_drop,hl];omega
 generalize l.take i=t at hl hd;generalize l[i]=b
 have e1:((t++[b]).drop (8*(i / 8))).take 8=t.drop (8*(i / 8))++[b]:=by
  rw[List.drop_append_of_le_length (by omega)];exact List.take_of_length_le (by simp only[List.length_append,List.length_singleton];omega)
 have e2:(t.drop (8*(i / 8))).take 8=t.drop (8*(i / 8)):=List.take_of_length_le (by omega);rw[e1,e2,val_append,hd];cases b <;> simp[val]
theorem XbI (l:List Bool)(n j:Nat)(hl:l.length=8*n)(hj:j<n):UInt8.ofNat (cvL l (8*n) j)=(Yd n l).getD j 0:=by
 rw[Xd4 n l j hj];have e:l.take (8*n)=l:=List.take_of_length_le (by omega);unfold cvL;rw[e]
def Z8 (n:Nat)(l:List Bool)(i:Nat):Obj:=.cells ((List.range n).map fun j=>Value.int .u8 (cvL l i j:Nat)).toArray 5 (0,0)
theorem XbS {w:World}{r n:Nat}{l:List Bool}{i:Nat}(h:w.heap[r]?=some (Z8 n l i))(j:Nat)(hj:j<n):w.cell? ⟨r,j,none⟩=some (.int .u8 (cvL l i j:Nat)):=by
 simp[World.cell?,h,Z8,hj]
theorem XjV {w:World}{r n:Nat}{l:List Bool}{i:Nat}(h:w.heap[r]?=some (Z8 n l i))(j:Nat):w.frozen? ⟨r,j,none⟩=false:=by
 simp[World.frozen?,h,Z8]
theorem Xnh {n:Nat}{l:List Bool}{i:Nat}(hi:i<l.length)(hb:l[i]=false):Z8 n l (i+1)=Z8 n l i:=by
 unfold Z8;congr 2
 apply List.map_congr_left
 intro j _;by_cases e:j=i / 8
 ·subst e;rw[Xdb l i hi,hb];simp
 ·rw[XeY l i j hi e]
theorem Xoq {w:World}{r n:Nat}{l:List Bool}{i:Nat}(h:w.heap[r]?=some (Z8 n l i))(hi:i<l.length)(hb:l[i]=true):
  (w.setCell ⟨r,i / 8,none⟩ (.int .u8 ((cvL l i (i / 8)+2 ^ (i%8):Nat):Int))).heap[r]?=some (Z8 n l (i+1)):=by
 simp only[World.setCell,Array.getElem?_modify,if_true,h,Option.map_some,Z8];simp;congr 1
 apply List.ext_getElem
 ·simp
 ·intro j h1 h2;simp at h1;rw[List.getElem_set];split
  ·rename_i e
   subst e
   have q:cvL l (i+1) (i / 8)=cvL l i (i / 8)+2 ^ (i%8):=by
    have q:=Xdb l i hi;rw[hb]at q;simpa using q
   simp[q]
  ·rename_i e
   have q:=XeY l i j hi (fun q=>e q.symm);simp[q]
theorem Xor {w:World}{r n:Nat}{l:List Bool}(h:w.heap[r]?=some (Z8 n l (8*n)))(hl:l.length=8*n):Seg w r 0 (Yd n l):=by
 intro j hj;rw[Zk]at hj;rw[Nat.zero_add,XbS h j hj,←XbI l n j hl hj];have:=XaT l (8*n) j;simp;omega
theorem Xo0 (f:List UInt8)(x y:Nat)(hx:x<256)(hy:y<256): [UInt8.ofNat x,UInt8.ofNat y]=Y4 f↔x+256*y=ZQ f:=by
 have h:=XbA f;simp only[Y4,List.cons.injEq,and_true];constructor
 ·rintro ⟨h1,h2⟩;have a1:=congrArg UInt8.toNat h1;have a2:=congrArg UInt8.toNat h2;simp at a1 a2;omega
 ·intro h1;constructor
  ·congr 1;omega
  ·congr 1;omega
theorem XmE (l:List Bool)(n:Nat)(hn:l.length=8*n)(h4:4≤n)(h66:n≤66):Yg l=if cvL l (8*n) (n-2)+256*cvL l (8*n) (n-1)=ZQ ((Yd n l).take (n-2))then(1,(Yd n l).take (n-2))else(5,[]):=by
 have e8:8*n / 8=n:=by omega
 have hd:(Yd n l).drop (n-2)=[UInt8.ofNat (cvL l (8*n) (n-2)),UInt8.ofNat (cvL l (8*n) (n-1))]:=by
  rw[XbI l n (n-2) hn (by omega),XbI l n (n-1) hn (by omega)];have hl:=Zk n l;apply List.ext_getElem
  ·simp[hl];omega
  ·intro i h1 h2;simp at h2;rw[List.getElem_drop];rcases i with _|_|i
   ·have q:n-2<(Yd n l).length:=by omega
    simp[List.getD,q]
   ·have e:n-2+(0+1)=n-1:=by omega
    have q:n-1<(Yd n l).length:=by omega
    simp[List.getD,q,e]
   ·omega
 unfold Yg;rw[hn,e8,if_neg (by omega),if_neg (by omega),if_neg (by omega),hd];simp only[Xo0 _ _ _ (XaT l (8*n) (n-2)) (XaT l (8*n) (n-1))]
theorem Xly {w:World}{r n base:Nat}{l:List Bool}(h:w.heap[r]?=some (Z8 n l (8*n)))(hl:l.length=8*n)(hb:base≤r)(hm:n≤maxLen):Bytes w base (1,(Yd n l).take (n-2)) (some ⟨r,0,none⟩) n:=by
 have e:((Yd n l).take (n-2)).length=n-2:=by rw[List.length_take,Zk];omega
 unfold Bytes;rw[e];refine⟨by simp[Lib.byteCells,Zk],.inr ⟨r,n,_,rfl,hb,h,by omega,hm,by simp,?_⟩⟩;apply List.ext_getElem
 ·simp[Lib.byteCells,Zk]
 ·intro i h1 h2;simp[Lib.byteCells,Zk]at h2;have q:=XbI l n i hl (by omega);have q2:=XaT l (8*n) i;have q3:=congrArg UInt8.toNat q;simp[List.getD,Zk,show i<n by omega]at q3;simp[Lib.byteCells];omega
theorem Xon (l:List Bool)(i:Nat)(hi:i<l.length)(hb:l[i]=true):((cvL l i (i / 8):Int)+2 ^ (i%8))%256=((cvL l i (i / 8)+2 ^ (i%8):Nat):Int):=by
 have h:=XaT l (i+1) (i / 8);have q:=Xdb l i hi;rw[hb,if_pos rfl]at q;rw[q]at h;have e:((cvL l i (i / 8):Int)+2 ^ (i%8))=((cvL l i (i / 8)+2 ^ (i%8):Nat):Int):=by simp
 rw[e];omega
theorem Xmp (w:World)(o p:Obj):((w.alloc o).alloc p).heap[w.heap.size+1]?=some p:=by
 have h:=Xg (w.alloc o) p;rwa [Xk]at h
theorem Xmo (w:World)(o p:Obj):((w.alloc o).alloc p).heap[w.heap.size]?=some o:=by
 rw[Below.heap_alloc _ _ _ (by rw[Xk];exact Nat.lt_succ_self _)];exact Xg w o
theorem Xjx (n:Nat)(l:List Bool)(hn:n≤100)(w:World):(Instr.makeSlice 28 (.int .i64 (n:Int)) (.int .i64 (n:Int))).run Tryz.prog w=.ok (.slice (some ⟨w.heap.size,0,none⟩) n n) (w.alloc (Z8 n l 0)):=by
 obtain⟨i0,hi,hz0,hz1,hz2⟩:=info_parts infoByte;rw[run_make w 28 5 i0 (.int .u8 0) Tryz.underlying28 hi hz0 .i64 .i64 n n (by omega) (Int.le_refl _) (by rw[hz2];omega) (by omega)]
 have e:madeCells (Value.cells (.int .u8 0)) ((n:Int).toNat*i0.size)=((List.range n).map fun j=>Value.int .u8 (cvL l 0 j:Nat)).toArray:=by
  rw[hz1];apply Array.ext
  ·simp[size_madeCells]
  ·intro j h1 h2;simp[madeCells,Value.cells,XmB,Nat.mod_one]
 rw[e];simp[Z8]
theorem XeE (b n cap:Nat)(l:List Bool)(w:World)(hn:l.length=n)(hm:n≤maxLen)(h:n<32∨n%8≠0∨528<n):
  Calls Tryz.prog 109 #[.slice (some ⟨b,0,none⟩) n cap] w fun e w'=>∃p c,e=.returned (fv (Yg l) p c)∧Bytes w' w.heap.size (Yg l) p c∧Below w.heap.size w w':=by
 unfold maxLen at hm;by_cases h1:n<32
 ·have e1:Yg l=(3,[]):=by simp[Yg,hn,h1]
  rw[e1];clear e1;have g1:(n:Int)<32:=by omega
  go_enter Tryz.func109,Tryz.ntmps109
  go_wp2
  exact bodyPost_ret (v:=.agg #[.int .i64 3,.slice none 0 0]) (by simp[results,Tryz.results109,go_sem]) rfl ⟨none,0,rfl,Bytes.none _ _ _,(Below.refl _ w).alloc (Nat.le_refl _) _⟩
 by_cases h2:n%8≠0
 ·have e1:Yg l=(4,[]):=by simp[Yg,hn,h1,h2]
  rw[e1];clear e1;have g1:¬(n:Int)<32:=by omega
  have g2:((n:Int)%8 != 0)=true:=by simp;omega
  go_enter Tryz.func109,Tryz.ntmps109
  go_wp2
  exact bodyPost_ret (v:=.agg #[.int .i64 4,.slice none 0 0]) (by simp[results,Tryz.results109,go_sem]) rfl ⟨none,0,rfl,Bytes.none _ _ _,(Below.refl _ w).alloc (Nat.le_refl _) _⟩
 ·have h2':n%8=0:=by omega
  have h3:528<n:=by omega
  have e1:Yg l=(6,[]):=by simp[Yg,hn,h1,h2',h3]
  rw[e1];clear e1;have g1:¬(n:Int)<32:=by omega
  have g2:((n:Int)%8 != 0)=false:=by simp;omega
  have g3:(528:Int)<(n:Int):=by omega
  go_enter Tryz.func109,Tryz.ntmps109
  go_wp2
  exact bodyPost_ret (v:=.agg #[.int .i64 6,.slice none 0 0]) (by simp[results,Tryz.results109,go_sem]) rfl ⟨none,0,rfl,Bytes.none _ _ _,(Below.refl _ w).alloc (Nat.le_refl _) _⟩
theorem XeD (b n cap:Nat)(l:List Bool)(w:World)(hn:l.length=8*n)(hn4:4≤n)(hn66:n≤66)(hb:b<w.heap.size)(hs:XbC w b l):
  Calls Tryz.prog 109 #[.slice (some ⟨b,0,none⟩) (8*n) cap] w fun e w'=>∃p c,e=.returned (fv (Yg l) p c)∧Bytes w' w.heap.size (Yg l) p c∧Below w.heap.size w w':=by
 obtain⟨m,hm⟩:∃m,m=8*n:=⟨_,rfl⟩;rw[← hm];have g1:¬(m:Int)<32:=by omega
 have g2:((m:Int)%8 != 0)=false:=by simp;omega
 have g3:¬(528:Int)<(m:Int):=by omega
 have g4:(m:Int) / 8=(n:Int):=by omega
 have hmk:=Xjx n l (by omega);have HM:=hide hm;have HN:=hide hn;clear hm hn;go_enter Tryz.func109,Tryz.ntmps109
 go_wp2
 go_loopw [5] (fun v wr=>∃(k:Nat),k≤m∧v=.int .i64 k∧wr.heap[w.heap.size+1]?=some (Z8 n l k)∧wr.heap[w.heap.size]?=some (.cells #[.int .i64 0,.slice none 0 0] 65 (0,0))∧wr.heap.size=w.heap.size+2∧Below w.heap.size w wr) (fun v _=>m -(intOf v).toNat)
 case atStart=>
  refine⟨0,Nat.zero_le _,rfl,?_,?_,?_,?_⟩
  ·exact Xmp w _ _
  ·exact Xmo w _ _
  ·exact Xc7 w _ _
  ·exact ((Below.refl _ w).alloc (Nat.le_refl _) _).alloc (Nat.le_of_lt (Xk w _▸Nat.lt_succ_self _)) _
 case round=>
  obtain⟨k,hk,rfl,hrow,hres,hsz,hbel⟩:=hrel;by_cases hlt:k<m
  ·have hkl:k<l.length:=by rw[HN.out,←HM.out];exact hlt
   have hcell:wr.cell? ⟨b,k,none⟩=some (.bool l[k]):=by
    rw[hbel.cell (p:=⟨b,k,none⟩) hb,hs k hkl];simp[List.getD,hkl]
   have hk8:k / 8<n:=by rw[HM.out]at hlt;omega
   by_cases hb1:l[k]=true
   ·rw[hb1]at hcell;have hc2:=XbS hrow (k / 8) hk8;have hfz:=XjV hrow (k / 8);have hput:=Xoq hrow hkl hb1;have HV:=hide (Xon l k hkl hb1);clear hb1;go_wp2
    go_region
    all_goals go_wp2
    all_goals go_roundw
    case rel=>rw[Xa HV];exact⟨k+1,hlt,by go_num,hput,(Below.heap_setCell _ _ _ _ (Nat.ne_of_lt (Nat.lt_succ_self _))).trans hres,(size_setCell _ _ _).trans hsz,(hbel.setCell (p:=⟨w.heap.size+1,k / 8,none⟩) (Nat.le_succ _) _).drew⟩
    case measure=>simp[intOf];omega
   ·have hb0:l[k]=false:=by simpa using hb1
    rw[hb0]at hcell;have hsame:=Xnh (n:=n) hkl hb0;rw[← hsame]at hrow;clear hsame hb0 hb1;go_wp2
    go_roundw
    case rel=>exact⟨k+1,hlt,by go_num,hrow,hres,hsz,hbel⟩
    case measure=>simp[intOf];omega
  ·have hkm:k=8*n:=by rw[← HM.out];omega
   rw[hkm]at hrow;have hseg:=Xor hrow HN.out;have hlen2:((Yd n l).take (n-2)).length=n-2:=by rw[List.length_take,Zk];omega
   have hsm:=XbR (w.heap.size+1) 0 n ((Yd n l).take (n-2)) wr (by unfold maxLen;omega) (hseg.take _);rw[hlen2]at hsm;have c0:=XbS hrow (n-2) (by omega);have c1:=XbS hrow (n-1) (by omega);have hx:=XaT l (8*n) (n-2);have hy:=XaT l (8*n) (n-1);have HF:=hide (XmE l n HN.out hn4 hn66);have HB:=hide (Xly (base:=w.heap.size+1) hrow HN.out (Nat.le_refl _) (by unfold maxLen;omega));have HS:=hide hsm;clear hsm hseg hrow;generalize cvL l (8*n) (n-2)=x at c0 hx HF;generalize cvL l (8*n) (n-1)=y at c1 hy HF;generalize ZQ ((Yd n l).take (n-2))=sm at HS HF;go_wp2_with fail
   refine(Xa HS).mono ?_;rintro e W1 ⟨rfl,hW1⟩;subst hW1;clear HS;have r0:W1.cell? ⟨w.heap.size,0,none⟩=some (.int .i64 0):=by rw[Lib.cell_of_heap hres];rfl
   have r1:W1.cell? ⟨w.heap.size,1,none⟩=some (.slice none 0 0):=by rw[Lib.cell_of_heap hres];rfl
   have rf:∀i,W1.frozen? ⟨w.heap.size,i,none⟩=false:=fun i=>Lib.frozen_of_heap hres i
   have t1:((n:Int)-2+1).toNat=n-1:=by omega
   have t2:((n:Int)-2).toNat=n-2:=by omega
   have HL:=hide hlen2;clear hlen2 hres;generalize (Yd n l).take (n-2)=fr at HL HF HB;by_cases hq:x+256*y=sm
   ·have h1:((x:Int)+256*(y:Int) !=(sm:Int))=false:=by simp;omega
    have HF2:Hid (Yg l=(1,fr)):=by show Yg l=(1,fr);rw[Xa HF,if_pos hq]
    clear HF hq;go_wp2
    go_region
    all_goals go_wp2
    rw[Xa HF2]
    have hbf:Below w.heap.size w (((W1.setCell ⟨w.heap.size,0,none⟩ (.int .i64 1)).setCell ⟨w.heap.size,1,none⟩ (.slice (some ⟨w.heap.size+1,0,none⟩) (n-2) n)).drew):=
     ((hbel.setCell (p:=⟨w.heap.size,0,none⟩) (Nat.le_refl _) _).setCell (p:=⟨w.heap.size,1,none⟩) (Nat.le_refl _) _).drew
    have hfin:Bytes (((W1.setCell ⟨w.heap.size,0,none⟩ (.int .i64 1)).setCell ⟨w.heap.size,1,none⟩ (.slice (some ⟨w.heap.size+1,0,none⟩) (n-2) n)).drew) w.heap.size (1,fr) (some ⟨w.heap.size+1,0,none⟩) n:=
     Xw (ownsRow_setCell_below (ownsRow_setCell_below (Xa HB) (Nat.lt_succ_self _) _) (Nat.lt_succ_self _) _) (Nat.le_succ _)
    exact bodyPost_ret (v:=.agg #[.int .i64 1,.slice (some ⟨w.heap.size+1,0,none⟩) (n-2) n]) (by simp[results,Tryz.results109,go_sem,r0,r1]) rfl ⟨some ⟨w.heap.size+1,0,none⟩,n,by simp[fv,Xa HL],hfin,hbf⟩
   ·have h1:((x:Int)+256*(y:Int) !=(sm:Int))=true:=by simp;omega
    have HF2:Hid (Yg l=(5,[])):=by show Yg l=(5,[]);rw[Xa HF,if_neg hq]
    clear HF hq;go_wp2
    go_region
    all_goals go_wp2
    rw[Xa HF2];exact bodyPost_ret (v:=.agg #[.int .i64 5,.slice none 0 0]) (by simp[results,Tryz.results109,go_sem,r0,r1]) rfl ⟨none,0,rfl,Bytes.none _ _ _,((hbel.setCell (p:=⟨w.heap.size,0,none⟩) (Nat.le_refl _) _).setCell (p:=⟨w.heap.size,1,none⟩) (Nat.le_refl _) _).drew⟩
theorem Xg8 (b n cap:Nat)(l:List Bool)(w:World)(hn:l.length=n)(hm:n≤maxLen)(hb:b<w.heap.size)(hs:XbC w b l):
  Calls Tryz.prog 109 #[.slice (some ⟨b,0,none⟩) n cap] w fun e w'=>∃p c,e=.returned (fv (Yg l) p c)∧Bytes w' w.heap.size (Yg l) p c∧Below w.heap.size w w':=by
 by_cases h:n<32∨n%8≠0∨528<n
 ·exact XeE b n cap l w hn hm h
 ·have e:n=8*(n / 8):=by omega
  rw[e];exact XeD b (n / 8) cap l w (by omega) (by omega) (by omega) hb hs
theorem XmO:(Tryz.prog.info? 4).map (fun i=>(i.zero,i.size,i.bytes))=some (some (.bool false),1,1):=by kernel_rfl
def Yh (w:World)(rb:Nat)(on:Bool)(cnt:Nat)(v:Value):Prop:=w.heap[rb]?=some (.cells #[.bool on,.int .i64 (cnt:Int),v] 72 (0,0))
section
variable {w wr:World}{rb:Nat}{on:Bool}{cnt:Nat}{v:Value}
theorem Yh.lt (h:Yh w rb on cnt v):rb<w.heap.size:=(Array.getElem?_eq_some_iff.1 h).1
theorem Yh.c0 (h:Yh w rb on cnt v):w.cell? ⟨rb,0,none⟩=some (.bool on):=by rw[Lib.cell_of_heap h];rfl
theorem Yh.c1 (h:Yh w rb on cnt v):w.cell? ⟨rb,1,none⟩=some (.int .i64 (cnt:Int)):=by rw[Lib.cell_of_heap h];rfl
theorem Yh.c2 (h:Yh w rb on cnt v):w.cell? ⟨rb,2,none⟩=some v:=by rw[Lib.cell_of_heap h];rfl
theorem Yh.fz (h:Yh w rb on cnt v)(i:Nat):w.frozen? ⟨rb,i,none⟩=false:=Lib.frozen_of_heap h i
theorem Yh.set0 (h:Yh w rb on cnt v)(b:Bool):Yh (w.setCell ⟨rb,0,none⟩ (.bool b)) rb b cnt v:=by
 unfold Yh at*;simp[World.setCell,Array.getElem?_modify,h]
theorem Yh.set1 (h:Yh w rb on cnt v)(n:Nat):Yh (w.setCell ⟨rb,1,none⟩ (.int .i64 (n:Int))) rb on n v:=by
 unfold Yh at*;simp[World.setCell,Array.getElem?_modify,h]
theorem Yh.set2 (h:Yh w rb on cnt v)(u:Value):Yh (w.setCell ⟨rb,2,none⟩ u) rb on cnt u:=by
 unfold Yh at*;simp[World.setCell,Array.getElem?_modify,h]
theorem Yh.keeps {X:Nat→Prop}{w':World}(h:Yh w rb on cnt v)(k:Xb X w w')(hx:¬X rb):Yh w' rb on cnt v:=by
 unfold Yh;rw[k.block rb h.lt hx];exact h
end
structure RInv (w:World)(X:Nat→Prop)(rb:Nat)(wr:World)(vo:Value)(on:Bool)(cnt:Nat)(has:List Bool)(v:Value)(ts:Told):Prop where
 head:Yh wr rb on cnt v
 row:wr.ownsRow 0 4 1 v has.length (has.map Value.bool)
 told:ToldAt wr w.heap.size vo ts
 keeps:Xb X w wr
 mine:Mine X w.heap.size v
section
variable {w wr:World}{X:Nat→Prop}{rb:Nat}{vo:Value}{on:Bool}{cnt:Nat}{has:List Bool}{v:Value}{ts:Told}
theorem RInv.turn {wr':World}(h:RInv w X rb wr vo on cnt has v ts)(k:Xb (· =rb) wr wr')(hx:X rb){on':Bool}{cnt':Nat}(hd:Yh wr' rb on' cnt' v):RInv w X rb wr' vo on' cnt' has v ts:=by
 have hne:∀i,i=rb→∀c fz (e:TypeId),e≠72→wr.heap[i]?≠some (.cells c e fz):=by
  intro i hi c fz e he hc;subst hi;rw[h.head]at hc;simp at hc;exact he hc.2.1.symm
 exact⟨hd,XQ h.row k (fun i hi c fz=>hne i hi c fz _ (by decide)),h.told.keeps k (fun i hi c fz=>⟨hne i hi c fz _ (by decide),hne i hi c fz _ (by decide)⟩),h.keeps.trans (k.mono (fun i hi=>hi▸hx)),h.mine⟩
theorem RInv.set1 (h:RInv w X rb wr vo on cnt has v ts)(hx:X rb)(n:Nat):RInv w X rb (wr.setCell ⟨rb,1,none⟩ (.int .i64 (n:Int))) vo on n has v ts:=
 h.turn ((Xb.refl _ wr).setB _ _) hx (h.head.set1 n)
theorem RInv.set0 (h:RInv w X rb wr vo on cnt has v ts)(hx:X rb)(b:Bool):RInv w X rb (wr.setCell ⟨rb,0,none⟩ (.bool b)) vo b cnt has v ts:=
 h.turn ((Xb.refl _ wr).setB _ _) hx (h.head.set0 b)
theorem RInv.Xcx (h:RInv w X rb wr vo on cnt has v ts)(hx:X rb):RInv w X rb (wr.setCell ⟨rb,2,none⟩ (.slice none 0 0)) vo on cnt [] (.slice none 0 0) ts:=by
 have hne:∀i,i=rb→∀c fz (e:TypeId),e≠72→wr.heap[i]?≠some (.cells c e fz):=by
  intro i hi c fz e he hc;subst hi;rw[h.head]at hc;simp at hc;exact he hc.2.1.symm
 have k:Xb (· =rb) wr (wr.setCell ⟨rb,2,none⟩ (.slice none 0 0)):=(Xb.refl _ wr).setB _ _;exact⟨h.head.set2 _,World.ownsRow_nil _ _ _ _,h.told.keeps k (fun i hi c fz=>⟨hne i hi c fz _ (by decide),hne i hi c fz _ (by decide)⟩),h.keeps.trans (k.mono (fun i hi=>hi▸hx)),Mine.nil _ _⟩
theorem RInv.later {wr':World}(h:RInv w X rb wr vo on cnt has v ts)(k:Xb (fun _=>False) wr wr'):RInv w X rb wr' vo on cnt has v ts:=
 ⟨h.head.keeps k id,XQ h.row k (fun _ hi=>absurd hi id),h.told.keeps k (fun _ hi=>absurd hi id),h.keeps.trans (k.mono (fun _ hi=>absurd hi id)),h.mine⟩
theorem RInv.push {w2:World}{o:Obj}{b:Bool}{v':Value}(h:RInv w X rb wr vo on cnt has v ts)(hx:X rb)
  (hown:w2.ownsRow 0 4 1 v' (has.length+1) (has.map Value.bool++[Value.bool b])) (hg:(wr.alloc o).grownBy w2 v.ownBlock) {N:Nat} (hb:v'.ownBlock=v.ownBlock∨v'.ownBlock=some N) (hN:w.heap.size≤N):
  RInv w X rb (w2.setCell ⟨rb,2,none⟩ v') vo on cnt (has++[b]) v' ts:=by
 have hA:=h.later ((Xb.refl _ wr).alloc o);have hsz:w.heap.size≤(wr.alloc o).heap.size:=hA.keeps.size;have hk:=Xb.grown hg
 have hrow:∀i,some i=v.ownBlock→∀c fz (e:TypeId),e≠4→(wr.alloc o).heap[i]?≠some (.cells c e fz):=by
  intro i hi c fz e he hc;obtain⟨c2,h2⟩:=Xd hA.row hi.symm;rw[h2]at hc;simp at hc;exact he hc.2.1.symm
 have hhd:Yh w2 rb on cnt v:=hA.head.keeps hk (fun hi=>hrow rb hi _ _ _ (by decide) hA.head)
 have hne:∀i,i=rb→∀c fz (e:TypeId),e≠72→w2.heap[i]?≠some (.cells c e fz):=by
  intro i hi c fz e he hc;subst hi;rw[hhd]at hc;simp at hc;exact he hc.2.1.symm
 have k:Xb (· =rb) w2 (w2.setCell ⟨rb,2,none⟩ v'):=(Xb.refl _ w2).setB _ _;have hK2:Xb X w w2:=⟨hk.os.trans hA.keeps.os,hk.tape.trans hA.keeps.tape,hk.output.trans hA.keeps.output,Nat.le_trans hA.keeps.size hk.size,fun i hi hX=>(hk.block i (Nat.lt_of_lt_of_le hi hsz) (fun hv=>by rcases hA.mine i hv.symm with q|q;exact hX q;omega)).trans (hA.keeps.block i hi hX)⟩;have hT2:=hA.told.keeps hk (fun i hi c fz=>⟨hrow i hi c fz _ (by decide),hrow i hi c fz _ (by decide)⟩);refine⟨hhd.set2 _,?_,hT2.keeps k (fun i hi c fz=>⟨hne i hi c fz _ (by decide),hne i hi c fz _ (by decide)⟩),hK2.trans (k.mono (fun i hi=>hi▸hx)),?_⟩
 ·rw[List.length_append,List.map_append];exact XQ hown k (fun i hi c fz=>hne i hi c fz _ (by decide))
 ·intro i hi;rcases hb with e|e
  ·exact hA.mine i (e▸hi)
  ·exact .inr ((Option.some.inj (e.symm.trans hi))▸hN)
theorem RInv.pushHead {w2:World}{o:Obj}(h:RInv w X rb wr vo on cnt has v ts)(hg:(wr.alloc o).grownBy w2 v.ownBlock):Yh w2 rb on cnt v:=by
 have hA:=h.later ((Xb.refl _ wr).alloc o);refine hA.head.keeps (Xb.grown hg) (fun hi=> ?_);obtain⟨c2,h2⟩:=Xd hA.row hi.symm;have h3:=hA.head;unfold Yh at h3;rw[h2]at h3;simp at h3
theorem RInv.seg (h:RInv w X rb wr vo on cnt has v ts)(h0:0<has.length):∃g cap,v=.slice (some ⟨g,0,none⟩) has.length cap∧g<wr.heap.size∧has.length≤cap∧XbC wr g has:=by
 rcases h.row.2 with⟨_,hn⟩|⟨g,cap,cur,hv,_,hg,hc,_,hs,ht⟩
 ·omega
 ·refine ⟨g,cap,hv,(Array.getElem?_eq_some_iff.1 hg).1,hc,?_⟩;intro i hi;have q:(cur.toList.take (has.length*1))[i]?=(has.map Value.bool)[i]?:=by rw[ht]
  rw[Lib.cell_of_heap hg];simp[hi]at q;simp[q,List.getD,hi]
theorem RInv.length (h:RInv w X rb wr vo on cnt has v ts):∃p cap,v=.slice p has.length cap:=by
 rcases h.row.2 with⟨hv,hn⟩|⟨g,cap,cur,hv,_⟩
 ·exact ⟨_,_,by rw[hv,hn]⟩
 ·exact ⟨_,_,hv⟩
theorem RInv.tell {w2:World}{o:Obj}{B:Nat}{f:Nat×List UInt8}{p:Option Addr}{cap:Nat}{vo':Value}(h:RInv w X rb wr vo on cnt has v ts)(hby:Bytes wr B f p cap)(hB:w.heap.size≤B)
  (hown:w2.ownsRow w.heap.size 65 2 vo' (ts.length+1) (YC ts++[.int .i64 f.1,.slice p f.2.length cap])) (hg:(wr.alloc o).grownBy w2 vo.ownBlock):
  RInv w X rb w2 vo' on cnt has v (ts++[(f,(p,cap))]):=by
 have hk0:Xb (fun _=>False) wr (wr.alloc o):=(Xb.refl _ wr).alloc o;have hA:=h.later hk0;have hsz:w.heap.size≤(wr.alloc o).heap.size:=hA.keeps.size;have hk:=Xb.grown hg
 have hrow:∀i,some i=vo.ownBlock→∀c fz (e:TypeId),e≠65→(wr.alloc o).heap[i]?≠some (.cells c e fz):=by
  intro i hi c fz e he hc;obtain⟨c2,h2⟩:=Xd hA.told.1 hi.symm;rw[h2]at hc;simp at hc;exact he hc.2.1.symm
 have hnew:∀i,some i=vo.ownBlock→w.heap.size≤i:=fun i hi=>(World.ownsRow.lt hA.told.1 i hi.symm).1
 have carry:∀ {x:Nat×List UInt8} {q:Option Addr} {c b0:Nat},Bytes wr b0 x q c→Bytes w2 b0 x q c:=fun hx=>
  XQ (XQ hx hk0 (fun _ h=>absurd h id)) hk (fun i hi c fz=>hrow i hi c fz _ (by decide))
 refine⟨hA.head.keeps hk (fun hi=>hrow rb hi _ _ _ (by decide) hA.head),XQ hA.row hk (fun i hi c fz=>hrow i hi c fz _ (by decide)),⟨?_,?_⟩,?_,h.mine⟩
 ·rw[Xa7,List.length_append];exact hown
 ·intro x hx;rcases List.mem_append.1 hx with hx|hx
  ·exact carry (h.told.2 x hx)
  ·simp at hx;subst hx;exact Xw (carry hby) hB
 ·exact hA.keeps.Xhu hk hnew
end
section
variable {w:World}{own:Nat→Nat}{i b:Nat}{c:Cfg}{s:St}{cl:Bool}{ch:Nat}{q cm o ev:Value}{qe ce oe:List Value}
theorem SAt.drewN (h:SAt w own i b c s cl ch q cm o ev qe ce oe)(n:Nat):SAt (w.drewN n) own i b c s cl ch q cm o ev qe ce oe:=
 h.others (X:=fun _=>False) ((Xb.refl _ w).drewN n) (fun _ hX=>absurd hX id) id (fun _ _=>rfl) h.Xp
theorem Qx (h:SAt w own i b c s cl ch q cm o ev qe ce oe)(n:Nat)(hn:n<c.m):
  Calls Tryz.prog 152 #[.pointer (some ⟨b,0,none⟩),.int .i64 n] w fun e w'=>e=.returned (.int .i64 (ahead c s n:Nat))∧∃k,w'=w.drewN k:=by
 have c0:=h.c_m;have c9:=h.Xi4;have hm:=h.cok.m;have ha:=h.sok.va;have hm0:0<c.m:=h.cok.pos;have hm1:c.m≤128:=by omega
 have hz:((c.m:Int)==0)=false:=by simp;omega
 have hf:((n:Int)-s.va+c.m)%c.m=(ahead c s n:Nat):=by
  unfold ahead;have e:(n:Int)-s.va+c.m=((n+c.m-s.va:Nat):Int):=by omega
  rw[e];rfl
 have HF:=hide hf;clear hf hm h;go_enter Tryz.func152,Tryz.ntmps152
 go_wp2
 go_quiet (fail)
 go_wp2
 go_ret
 exact⟨YI (Xa HF),_,rfl⟩
theorem XbX (h:SAt w own i b c s cl ch q cm o ev qe ce oe)(n:Nat)(hn:n<c.m):
  Calls Tryz.prog 153 #[.pointer (some ⟨b,0,none⟩),.int .i64 n] w fun e w'=>e=.returned (.int .i64 (follow c n:Nat))∧∃k,w'=w.drewN k:=by
 have c0:=h.c_m;have hm:=h.cok.m;have hm0:0<c.m:=h.cok.pos;have hm1:c.m≤128:=by omega
 have hz:((c.m:Int)==0)=false:=by simp;omega
 have hf:((n:Int)+1)%c.m=(follow c n:Nat):=rfl;have HF:=hide hf;clear hf hm h;go_enter Tryz.func153,Tryz.ntmps153
 first|(go_wp2;go_ret;exact⟨YI (Xa HF),0,rfl⟩)|(go_wp2;go_quiet (fail);go_wp2;go_ret;exact⟨YI (Xa HF),_,rfl⟩)
theorem XaF (h:SAt w own i b c s cl ch q cm o ev qe ce oe)(n:Nat)(hn:n<c.m):
  Calls Tryz.prog 166 #[.pointer (some ⟨b,0,none⟩),.int .i64 n] w fun e w'=>e=.returned (.bool (XI c s n))∧∃k,w'=w.drewN k:=by
 have c11:=h.Xf4;have k1:=fun j=>Qx (h.drewN j) n hn
 have k2:=fun j=>Qx (h.drewN j) s.vm h.sok.vm
 have hf:decide (ahead c s n≤ahead c s s.vm)=XI c s n:=rfl;have HF:=hide hf;clear hf h;generalize ahead c s n=x at k1 HF;generalize ahead c s s.vm=y at k2 HF;go_enter Tryz.func166,Tryz.ntmps166
 go_wp2
 go_quiet (first|(go_at_call_of 152 ((n:Int));exact Calls.quiet_of (k1 _))|(go_at_call_of 152 ((s.vm:Int));exact Calls.quiet_of (k2 _)))
 go_wp2
 go_ret
 exact⟨Xr (Xa HF),_,rfl⟩
theorem QZ (h:SAt w own i b c s cl ch q cm o ev qe ce oe):
  Calls Tryz.prog 89 #[.pointer (some ⟨b,0,none⟩)] w fun e w'=>e=.returned (.bool (XO c s))∧∃k,w'=w.drewN k:=by
 have c18:=h.Xf3;have c19:=h.Xi2;have c4:=h.XoH;obtain⟨p,cap,rfl,hc1,hc2⟩:=h.lcm.slice;have hr:=h.sok.came;have hr2:=h.cok.room16;have hf:XO c s=(s.busy||decide (c.room≤s.came.length)):=rfl;have HF:=hide hf;clear hf;clear h;unfold maxLen at hc2;generalize s.came.length=n at*;cases hb:s.busy with
 |true=>
  rw[hb]at c18 HF;go_enter Tryz.func89,Tryz.ntmps89
  go_wp2
  first|(go_ret;exact⟨Xr (Xa HF).symm,0,rfl⟩)|(go_quiet (fail);go_wp2;go_ret;exact⟨Xr (Xa HF).symm,_,rfl⟩)
 |false=>
  rw[hb]at c18 HF;have HF2:Hid (XO c s=decide (c.room≤n)):=hide (by rw[Xa HF];simp);go_enter Tryz.func89,Tryz.ntmps89
  go_wp2
  first|(go_ret;exact⟨Xr (Xa HF2).symm,0,rfl⟩)|(go_quiet (fail);go_wp2;go_ret;exact⟨Xr (Xa HF2).symm,_,rfl⟩)
theorem Xb4 (h:SAt w own i b c s cl ch q cm o ev qe ce oe):
  Calls Tryz.prog 135 #[.pointer (some ⟨b,0,none⟩)] w fun e w'=>e=.returned (.int .i64 (ready c s:Nat))∧∃k,w'=w.drewN k:=by
 have k1:=QZ h;have hf:ready c s=if XO c s then 3 else 2:=rfl
 have HF:=hide hf;clear hf h;generalize XO c s=x at k1 HF;cases x with
 |true=>
  have HF2:Hid ((ready c s:Nat)=3):=hide (by rw[Xa HF];rfl);go_enter Tryz.func135,Tryz.ntmps135
  go_wp2_with fail
  refine k1.mono ?_;rintro e w1 ⟨rfl,k,rfl⟩;go_wp2
  go_ret
  exact⟨YI (by rw[Xa HF2];rfl),k,rfl⟩
 |false=>
  have HF2:Hid ((ready c s:Nat)=2):=hide (by rw[Xa HF];rfl);go_enter Tryz.func135,Tryz.ntmps135
  go_wp2_with fail
  refine k1.mono ?_;rintro e w1 ⟨rfl,k,rfl⟩;go_wp2
  go_ret
  exact⟨YI (by rw[Xa HF2];rfl),k,rfl⟩
theorem XdZ (h:SAt w own i b c s cl ch q cm o ev qe ce oe):
  Calls Tryz.prog 130 #[.pointer (some ⟨b,0,none⟩)] w fun e w'=>e=.returned (.bool (YU c s))∧∃k,w'=w.drewN k:=by
 have c8:=h.Xas;have c16:=h.XaS;have c12:=h.c_q;have c1:=h.Xo8;obtain⟨p,cap,rfl,hc1,hc2⟩:=h.lq.slice;have k1:=Qx h s.vs h.sok.vs;have hr:=h.sok.q20;have hr2:=h.cok.win15;have hf:YU c s=(!s.peer&&(decide (ahead c s s.vs<s.queue.length)&&decide (ahead c s s.vs<c.win))):=rfl;have HF:=hide hf;clear hf h;unfold maxLen at hc2;generalize s.queue.length=n at*;generalize ahead c s s.vs=a at*;cases hb:s.peer with
 |true=>
  rw[hb]at c16 HF;go_enter Tryz.func130,Tryz.ntmps130
  go_wp2_with fail
  refine k1.mono ?_;rintro e w1 ⟨rfl,k,rfl⟩;go_wp2
  first|(go_ret;exact⟨Xr (Xa HF).symm,k,rfl⟩)|(go_quiet (fail);go_wp2;go_ret;exact⟨Xr (Xa HF).symm,_,World.drewN_drewN ..⟩)
 |false=>
  rw[hb]at c16 HF;by_cases hlt:a<n
  ·have HF2:Hid (YU c s=decide (a<c.win)):=hide (by rw[Xa HF];simp[hlt]);go_enter Tryz.func130,Tryz.ntmps130
   go_wp2_with fail
   refine k1.mono ?_;rintro e w1 ⟨rfl,k,rfl⟩;go_wp2
   first|(go_ret;exact⟨Xr (Xa HF2).symm,k,rfl⟩)|(go_quiet (fail);go_wp2;go_ret;exact⟨Xr (Xa HF2).symm,_,World.drewN_drewN ..⟩)
  ·have HF2:Hid (YU c s=false):=hide (by rw[Xa HF];simp[hlt]);go_enter Tryz.func130,Tryz.ntmps130
   go_wp2_with fail
   refine k1.mono ?_;rintro e w1 ⟨rfl,k,rfl⟩;go_wp2
   first|(go_ret;exact⟨Xr (Xa HF2).symm,k,rfl⟩)|(go_quiet (fail);go_wp2;go_ret;exact⟨Xr (Xa HF2).symm,_,World.drewN_drewN ..⟩)
theorem ZH (h:SAt w own i b c s cl ch q cm o ev qe ce oe)(f:Fr)(fq:Option Addr)(fc:Nat):
  Calls Tryz.prog 142 #[.pointer (some ⟨b,0,none⟩),frV f fq fc] w fun e w'=>e=.returned (.bool (X8 c f))∧Below w.heap.size w w':=by
 have c5:=h.Xf2;have hlt:=h.lt;have hf:X8 c f=(f.a==(c.addr:Int)):=rfl;have HF:=hide hf;clear hf h;unfold frV;go_enter Tryz.func142,Tryz.ntmps142
 go_wp2
 first|(go_ret;exact⟨Xr (Xa HF).symm,(Below.refl _ w).alloc (Nat.le_refl _) _⟩)|(go_quiet (fail);go_wp2;go_ret;exact⟨Xr (Xa HF).symm,below_drewN ((Below.refl _ w).alloc (Nat.le_refl _) _) _⟩)
end
def YZ (w:World)(own:Nat→Nat)(t:Nat)(v:Value)(l:List Msg):Prop:=
 ∃p cap,v=.slice p l.length cap∧l.length≤cap∧cap≤maxLen∧((p=none∧cap=0)∨∃g off cur,p=some ⟨g,off,none⟩∧own g=t∧w.heap[g]?=some (.cells cur 28 (0,0))∧off+cap≤cur.size∧∀(j:Nat) (m:Msg),l[j]?=some m→∃x,cur[off+j]?=some x∧BytesAt w own t x m)
section
variable {w w':World}{own own':Nat→Nat}{t:Nat}{v:Value}{l:List Msg}{X:Nat→Prop}
theorem YZ.nil (w:World)(own:Nat→Nat)(t:Nat):YZ w own t (.slice none 0 0) []:=⟨none,0,rfl,Nat.le_refl _,Nat.zero_le _,.inl ⟨rfl,rfl⟩⟩
theorem YZ.keeps (h:YZ w own t v l)(hk:Xb X w w')(hx:∀k,X k→own k≠t)(ho:∀k,k<w.heap.size→own' k=own k):YZ w' own' t v l:=by
 obtain⟨p,cap,rfl,h1,h2,h3⟩:=h;refine⟨p,cap,rfl,h1,h2,?_⟩;rcases h3 with h3|⟨g,off,cur,rfl,hg,hc,hs,he⟩
 ·exact .inl h3
 ·have hlt:=(Array.getElem?_eq_some_iff.1 hc).1;refine .inr ⟨g,off,cur,rfl,(ho g hlt).trans hg,?_,hs,fun j m hj=> ?_⟩
  ·rw[hk.block g hlt (fun hX=>hx g hX hg)];exact hc
  ·obtain ⟨x,hx1,hx2⟩:=he j m hj;exact⟨x,hx1,hx2.keeps hk hx ho⟩
end
def Zn (c:Cfg)(s:St)(cl:Bool)(q cm o ev:Value):Array Value:=
 #[.int .i64 c.m,.int .i64 c.win,.int .i64 c.tim,.int .i64 c.tri,.int .i64 c.room,.int .i64 c.addr,.int .i64 s.state,
  .int .i64 s.vs,.int .i64 s.va,.int .i64 s.vr,.int .i64 s.vm,q,.int .i64 s.timer,.int .i64 s.tries,.bool s.Xh,.bool s.peer,.bool s.busy,
  .bool s.Xu,cm,o,ev,.bool cl]
structure TAt (w:World)(own:Nat→Nat)(i b:Nat)(c:Cfg)(s:St)(cl:Bool)(q cm o ev:Value)(ce oe:List Value):Prop where
 head:w.heap[b]?=some (.cells (Zn c s cl q cm o ev) 137 (0,0))
 ownb:own b=tg i 0
 lq:YZ w own (tg i 1) q s.queue
 lcm:Lst w own (tg i 2) cm ce s.came
 lo:Lst w own (tg i 3) o oe s.out
 lev:w.ownsRow 0 3 1 ev s.events.length (s.events.map fun n=>.int .i64 (n:Nat))
 owne:∀k,ev.ownBlock=some k→own k=tg i 4
 XC:own 0=0
 Xp:∀k,w.heap.size≤k→own k=0
 cok:c.ok
 sok:s.fit c
def Ttn (w:World)(own:Nat→Nat)(i b:Nat)(c:Cfg)(s:St)(cl:Bool):Prop:=∃q cm o ev ce oe,TAt w own i b c s cl q cm o ev ce oe
section
variable {w w':World}{own own':Nat→Nat}{i b:Nat}{c:Cfg}{s:St}{cl:Bool}{q cm o ev:Value}{ce oe:List Value}
theorem TAt.lt (h:TAt w own i b c s cl q cm o ev ce oe):b<w.heap.size:=(Array.getElem?_eq_some_iff.1 h.head).1
theorem TAt.pos (h:TAt w own i b c s cl q cm o ev ce oe):0<w.heap.size:=Nat.lt_of_le_of_lt (Nat.zero_le _) h.lt
theorem TAt.cell (h:TAt w own i b c s cl q cm o ev ce oe)(j:Nat){v:Value}(hj:(Zn c s cl q cm o ev)[j]?=some v):w.cell? ⟨b,j,none⟩=some v:=by
 rw[Lib.cell_of_heap h.head];exact hj
theorem TAt.c0 (h:TAt w own i b c s cl q cm o ev ce oe):w.cell? ⟨b,0,none⟩=some (.int .i64 c.m):=h.cell 0 rfl
theorem TAt.c1 (h:TAt w own i b c s cl q cm o ev ce oe):w.cell? ⟨b,1,none⟩=some (.int .i64 c.win):=h.cell 1 rfl
theorem TAt.c2 (h:TAt w own i b c s cl q cm o ev ce oe):w.cell? ⟨b,2,none⟩=some (.int .i64 c.tim):=h.cell 2 rfl
theorem TAt.c3 (h:TAt w own i b c s cl q cm o ev ce oe):w.cell? ⟨b,3,none⟩=some (.int .i64 c.tri):=h.cell 3 rfl
theorem TAt.c4 (h:TAt w own i b c s cl q cm o ev ce oe):w.cell? ⟨b,4,none⟩=some (.int .i64 c.room):=h.cell 4 rfl
theorem TAt.c5 (h:TAt w own i b c s cl q cm o ev ce oe):w.cell? ⟨b,5,none⟩=some (.int .i64 c.addr):=h.cell 5 rfl
theorem TAt.c6 (h:TAt w own i b c s cl q cm o ev ce oe):w.cell? ⟨b,6,none⟩=some (.int .i64 s.state):=h.cell 6 rfl
theorem TAt.c7 (h:TAt w own i b c s cl q cm o ev ce oe):w.cell? ⟨b,7,none⟩=some (.int .i64 s.vs):=h.cell 7 rfl
theorem TAt.c8 (h:TAt w own i b c s cl q cm o ev ce oe):w.cell? ⟨b,8,none⟩=some (.int .i64 s.va):=h.cell 8 rfl
theorem TAt.c9 (h:TAt w own i b c s cl q cm o ev ce oe):w.cell? ⟨b,9,none⟩=some (.int .i64 s.vr):=h.cell 9 rfl
theorem TAt.c10 (h:TAt w own i b c s cl q cm o ev ce oe):w.cell? ⟨b,10,none⟩=some (.int .i64 s.vm):=h.cell 10 rfl
theorem TAt.c11 (h:TAt w own i b c s cl q cm o ev ce oe):w.cell? ⟨b,11,none⟩=some (q):=h.cell 11 rfl
theorem TAt.c12 (h:TAt w own i b c s cl q cm o ev ce oe):w.cell? ⟨b,12,none⟩=some (.int .i64 s.timer):=h.cell 12 rfl
theorem TAt.c13 (h:TAt w own i b c s cl q cm o ev ce oe):w.cell? ⟨b,13,none⟩=some (.int .i64 s.tries):=h.cell 13 rfl
theorem TAt.c14 (h:TAt w own i b c s cl q cm o ev ce oe):w.cell? ⟨b,14,none⟩=some (.bool s.Xh):=h.cell 14 rfl
theorem TAt.c15 (h:TAt w own i b c s cl q cm o ev ce oe):w.cell? ⟨b,15,none⟩=some (.bool s.peer):=h.cell 15 rfl
theorem TAt.c16 (h:TAt w own i b c s cl q cm o ev ce oe):w.cell? ⟨b,16,none⟩=some (.bool s.busy):=h.cell 16 rfl
theorem TAt.c17 (h:TAt w own i b c s cl q cm o ev ce oe):w.cell? ⟨b,17,none⟩=some (.bool s.Xu):=h.cell 17 rfl
theorem TAt.c18 (h:TAt w own i b c s cl q cm o ev ce oe):w.cell? ⟨b,18,none⟩=some (cm):=h.cell 18 rfl
theorem TAt.c19 (h:TAt w own i b c s cl q cm o ev ce oe):w.cell? ⟨b,19,none⟩=some (o):=h.cell 19 rfl
theorem TAt.c20 (h:TAt w own i b c s cl q cm o ev ce oe):w.cell? ⟨b,20,none⟩=some (ev):=h.cell 20 rfl
theorem TAt.c21 (h:TAt w own i b c s cl q cm o ev ce oe):w.cell? ⟨b,21,none⟩=some (.bool cl):=h.cell 21 rfl
theorem TAt.fz (h:TAt w own i b c s cl q cm o ev ce oe)(j:Nat):w.frozen? ⟨b,j,none⟩=false:=Lib.frozen_of_heap h.head j
theorem TAt.wrote (h:TAt w own i b c s cl q cm o ev ce oe){s':St}{cl':Bool}{w':World}(hk:Xb (· =b) w w')(hh:w'.heap[b]?=some (.cells (Zn c s' cl' q cm o ev) 137 (0,0)))
  (e1:s'.queue=s.queue) (e2:s'.came=s.came) (e3:s'.out=s.out) (e4:s'.events=s.events) (hok:s'.fit c):TAt w' own i b c s' cl' q cm o ev ce oe:=by
 have hne:∀p,p≠0→p<5→∀k,k=b→own k≠tg i p:=fun p hp hp5 k hk=>by rw[hk,h.ownb];exact Xz (by omega) hp5 (.inr (fun e=>hp e.symm))
 refine⟨hh,h.ownb,?_,?_,?_,?_,h.owne,h.XC,fun k hs=>h.Xp k (Nat.le_trans hk.size hs),h.cok,hok⟩
 ·rw[e1];exact h.lq.keeps hk (hne 1 (by omega) (by omega)) (fun _ _=>rfl)
 ·rw[e2];exact h.lcm.keeps hk (hne 2 (by omega) (by omega)) (fun _ _=>rfl)
 ·rw[e3];exact h.lo.keeps hk (hne 3 (by omega) (by omega)) (fun _ _=>rfl)
 ·rw[e4];exact Xc h.lev hk (fun k hb hX=>hne 4 (by omega) (by omega) k hX (h.owne k hb))
theorem TAt.upd (h:TAt w own i b c s cl q cm o ev ce oe){w':World}(hk:Xb (· =b) w w'):Upd i own own w w':=
 ⟨hk.mono (fun k hk=>⟨0,by omega,by rw[hk];exact h.ownb⟩),fun _ _=>rfl⟩
theorem TAt.others (h:TAt w own i b c s cl q cm o ev ce oe){X:Nat→Prop}(hk:Xb X w w')(hx:∀k,X k→own k≠0→∀p,p<5→own k≠tg i p)(ho:∀k,k<w.heap.size→own' k=own k)(hn:∀k,w'.heap.size≤k→own' k=0):TAt w' own' i b c s cl q cm o ev ce oe:=by
 have hx':∀p,p<5→∀k,X k→own k≠tg i p:=fun p hp k hX e=>hx k hX (by rw[e];exact Xq _ _) p hp e
 refine⟨?_,(ho b h.lt).trans h.ownb,h.lq.keeps hk (hx' 1 (by omega)) ho,h.lcm.keeps hk (hx' 2 (by omega)) ho,h.lo.keeps hk (hx' 3 (by omega)) ho,Xc h.lev hk (fun k hb hX=>hx' 4 (by omega) k hX (h.owne k hb)),fun k hb=>(ho k (World.ownsRow.lt h.lev k hb).2).trans (h.owne k hb),?_,hn,h.cok,h.sok⟩
 ·rw[hk.block b h.lt (fun hX=>hx' 0 (by omega) b hX h.ownb)];exact h.head
 ·exact (ho 0 h.pos).trans h.XC
theorem TAt.later (h:TAt w own i b c s cl q cm o ev ce oe)(hb:Below w.heap.size w w'):TAt w' own i b c s cl q cm o ev ce oe:=
 h.others (X:=fun _=>False) (Xb.of hb) (fun _ hX=>absurd hX id) (fun _ _=>rfl) (fun k hs=>h.Xp k (Nat.le_trans hb.size hs))
end
def XA (i b:Nat)(c:Cfg)(s':St)(cl:Bool)(own:Nat→Nat)(w:World)(e:Ending)(w':World):Prop:=
 e=.returned (.tuple #[])∧∃own',Ttn w' own' i b c s' cl∧Upd i own own' w w'
def Yn (n:Nat)(i b:Nat)(c:Cfg)(s':St)(cl:Bool)(own:Nat→Nat)(w:World)(e:Ending)(w':World):Prop:=
 e=.returned (.int .i64 n)∧∃own',Ttn w' own' i b c s' cl∧Upd i own own' w w'
end Go.Proofs.YtkalonhalhdlaaaGreatDoor
