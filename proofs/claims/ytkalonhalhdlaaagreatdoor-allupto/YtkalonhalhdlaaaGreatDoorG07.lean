import Derived.Test.YtkalonhalhdlaaaGreatDoorG06
set_option maxHeartbeats 4000000
set_option maxRecDepth 100000
namespace Go.Proofs.YtkalonhalhdlaaaGreatDoor
open Go.RowKit
theorem QC:(Tryz.prog.info? 28).map (fun i=>(i.zero,i.size,i.bytes))=some (some (.slice none 0 0),1,24):=by kernel_rfl
theorem XgE:(Tryz.prog.info? 3).map (fun i=>(i.zero,i.size,i.bytes))=some (some (.int .i64 0),1,8):=by kernel_rfl
section
variable {w W:World}{own:Nat→Nat}{i b:Nat}{c:Cfg}{s:St}{cl:Bool}{ch:Nat}{q cm o ev:Value}{qe ce oe:List Value}
theorem Yk {w:World}{base:Nat}{e:TypeId}{size:Nat}{v:Value}{n:Nat}{xs:List Value}(h:w.ownsRow base e size v n xs):∃p cap,v=.slice p n cap:=by
 rcases h.2 with⟨hv,hn⟩|⟨g,cap,cur,hv,_⟩
 ·exact ⟨none,0,by rw[hv,hn]⟩
 ·exact ⟨_,cap,hv⟩
theorem JK (p:Option Addr)(n cap:Nat):∀u∈ [Value.slice p n cap],u.oneCell'=true:=by
 intro u hu;simp at hu;subst hu;rfl
theorem XiL (k:IntKind)(n:Int):∀u∈ [Value.int k n],u.oneCell'=true:=by
 intro u hu;simp at hu;subst hu;rfl
def XZ (own:Nat→Nat)(n n' t:Nat):Nat→Nat:=fun k=>if k<n then own k else if k<n' then t else 0
theorem XR {own:Nat→Nat}{n n' t k:Nat}(h:k<n):XZ own n n' t k=own k:=by simp[XZ,h]
theorem YJ {own:Nat→Nat}{n n' t k:Nat}(h:n≤k)(h':k<n'):XZ own n n' t k=t:=by simp[XZ,show ¬k<n by omega,h']
theorem ZI {own:Nat→Nat}{n n' t k:Nat}(h:n≤n')(h':n'≤k):XZ own n n' t k=0:=by simp[XZ,show ¬k<n by omega,show ¬k<n' by omega]
theorem SAt.pushed (h:SAt w own i b c s cl ch q cm o ev qe ce oe){v o':Value}{m:Msg}{w1 w2 w3:World}
  (hb:Below w.heap.size w w1) (hv:w1.ownsRow w.heap.size 5 1 v m.length (Lib.byteCells m))
  (hw2:Below w1.heap.size w1 w2) (hg:w2.grownBy w3 o.ownBlock) (hrow:w3.ownsRow 0 28 1 o' (s.out.length+1) (oe++[v]))
  (hob:o'.ownBlock=o.ownBlock∨∃k,o'.ownBlock=some k∧w2.heap.size≤k):
  SAt (w3.setCell ⟨b,20,none⟩ o') (XZ own w.heap.size w3.heap.size (tg i 3)) i b c {s with out:=s.out++[m]} cl ch q cm o' ev qe ce (oe++[v])∧Upd i own (XZ own w.heap.size w3.heap.size (tg i 3)) w (w3.setCell ⟨b,20,none⟩ o'):=by
 have hz1:=hb.size;have hz2:=hw2.size;have hz3:=hg.size;have hb2:Below w.heap.size w w2:=hb.trans (hw2.mono hz1)
 have hob':∀k,o'.ownBlock=some k→own k=tg i 3∨w.heap.size≤k:=by
  intro k hk;rcases hob with e|⟨k2,e,h2⟩
  ·rw[e]at hk;exact .inl (h.lo.rown k hk)
  ·rw[e]at hk;simp at hk;omega
 -- all but the row
 have hK2:Xb (fun k=>some k=o.ownBlock) w w3:=(Xb.of hb2).trans (Xb.grown hg);have hro:∀k,some k=o.ownBlock→own k=tg i 3:=fun k hk=>h.lo.rown k hk.symm
 have hold:∀k,k<w.heap.size→XZ own w.heap.size w3.heap.size (tg i 3) k=own k:=fun k hk=>XR hk
 have hbr:¬some b=o.ownBlock:=fun e=>by have:=hro b e;rw[h.ownb]at this;exact Xz (by omega) (by omega) (.inr (by omega)) this
 have hlt:=h.lt;have hhead3:w3.heap[b]?=some (.cells (Zm c s ch q cm o ev) 135 (0,0)):=by rw[hK2.block b hlt hbr];exact h.head
 have hKb:Xb (· =b) w3 (w3.setCell ⟨b,20,none⟩ o'):=(Xb.refl _ w3).setB _ _;have hK:Xb (fun k=>some k=o.ownBlock∨k=b) w (w3.setCell ⟨b,20,none⟩ o'):=(hK2.mono (fun _ h=>.inl h)).trans (hKb.mono (fun _ h=>.inr h))
 have hne:∀p,p<5→p≠0→p≠3→∀k,(some k=o.ownBlock∨k=b)→own k≠tg i p:=by
  intro p hp h0 h3 k hk;rcases hk with hk|hk
  ·rw[hro k hk];exact Xz (by omega) hp (.inr (by omega))
  ·rw[hk,h.ownb];exact Xz (by omega) hp (.inr (by omega))
 have hlc:=(Array.getElem?_eq_some_iff.1 h.chan).1;have hcb:ch≠b:=fun e=>by have:=h.head;rw[← e,h.chan]at this;simp at this
 have hco:¬some ch=o.ownBlock:=fun e=>by have:=hro ch e;rw[h.ownc]at this;exact Xz (by omega) (by omega) (.inr (by omega)) this
 have hb3:b<w3.heap.size:=by omega
 have hvlt:=World.ownsRow.lt hv;refine⟨⟨?_,(hold b hlt).trans h.ownb,?_,(hold ch hlc).trans h.ownc,h.lq.keeps hK (hne 1 (by omega) (by omega) (by omega)) hold,h.lcm.keeps hK (hne 2 (by omega) (by omega) (by omega)) hold,?_,?_,?_,?_,(hold 0 h.pos).trans h.XC,fun k hk=>ZI (by omega) (by rw[size_setCell]at hk;exact hk),h.cok,h.sok.out _⟩,⟨?_,hold⟩⟩
 ·exact Xm hhead3 o'
 ·rw[hK.block ch hlc (fun hx=>by rcases hx with hx|hx;exact hco hx;exact hcb hx)];exact h.chan
 ·refine ⟨?_,?_,?_,h.lo.snoc (fun k hk e=>by rw[h.Xp k (hvlt k hk).1]at e;exact Xq _ _ e.symm)⟩
  ·have:(s.out++[m]).length=s.out.length+1:=by simp
   rw[this];refine Xc hrow hKb (fun k hk e=> ?_);rcases hob' k hk with h1|h1
   ·rw[e,h.ownb]at h1;exact Xz (by omega) (by omega) (.inr (by omega)) h1
   ·omega
  ·intro k hk;rcases hob with e|⟨k2,e,h2⟩
   ·rw[e]at hk;have:=World.ownsRow.lt h.lo.row k hk;rw[XR this.2];exact h.lo.rown k hk
   ·rw[e]at hk;simp at hk;have h4:=(World.ownsRow.lt hrow k2 e).2;exact YJ (by omega) (by omega)
  ·intro j x mm h1 h2;have hl:=h.lo.len;by_cases hj:j<oe.length
   ·rw[List.getElem?_append_left hj]at h1;rw[List.getElem?_append_left (by omega)]at h2;have hx:=h.lo.each j x mm h1 h2;refine⟨Xc hx.1 hK (fun k hk hX=> ?_),fun k hk=>(hold k (World.ownsRow.lt hx.1 k hk).2).trans (hx.2 k hk)⟩;rcases hX with hX|hX
    ·-- a row of lists is no row of bytes
     obtain⟨c1,e1⟩:=Xd h.lo.row hX.symm;obtain⟨c2,e2⟩:=Xd hx.1 hk;rw[e1]at e2;simp at e2
    ·have:=hx.2 k hk;rw[hX,h.ownb]at this;exact Xz (by omega) (by omega) (.inr (by omega)) this
   ·rw[List.getElem?_append_right (by omega)]at h1;rw[List.getElem?_append_right (by omega)]at h2;rw[hl]at h1;obtain⟨jj,hjj⟩:∃jj,j-s.out.length=jj:=⟨_,rfl⟩;rw[hjj]at h1 h2;rcases jj with _|jj
    ·simp at h1 h2;subst h1 h2
     have hv1:w3.ownsRow w.heap.size 5 1 v m.length (Lib.byteCells m):=by
      refine Xc (Xc hv (Xb.of (X:=fun _=>False) hw2) (fun _ _=>id)) (Xb.grown hg) (fun k hk hX=> ?_);have h1:=hvlt k hk;have h2:=World.ownsRow.lt h.lo.row k hX.symm;omega
     refine⟨Xw (Xc hv1 hKb (fun k hk e=> ?_)) (Nat.zero_le _),fun k hk=>YJ (hvlt k hk).1 (World.ownsRow.lt hv1 k hk).2⟩;have h1:=hvlt k hk;omega
    ·simp at h1
 ·exact Xc h.lev hK (fun k hk hX=>hne 4 (by omega) (by omega) (by omega) k hX (h.owne k hk))
 ·exact fun k hk=>(hold k (World.ownsRow.lt h.lev k hk).2).trans (h.owne k hk)
 ·refine h.ctl.keeps hK h.pos (fun hx=> ?_);rcases hx with hx|hx
  ·have:=hro 0 hx;rw[h.XC]at this;exact Xq _ _ this.symm
  ·have:=h.ownb;rw[← hx,h.XC]at this;exact Xq _ _ this.symm
 ·exact hK.mono (fun k hk=>by rcases hk with hk|hk;exact⟨3,by omega,hro k hk⟩;exact⟨0,by omega,by rw[hk];exact h.ownb⟩)
theorem SAt.JH (h:SAt w own i b c s cl ch q cm o ev qe ce oe){w1 w3:World}{x:Obj}{v:Value}(hb:Below w.heap.size w w1)(hg:(w1.alloc x).grownBy w3 v.ownBlock)(hv:∀k,v.ownBlock=some k→own k≠tg i 0):w3.heap[b]?=some (.cells (Zm c s ch q cm o ev) 135 (0,0)):=by
 have hlt:=h.lt;have hz:=hb.size;rw[hg.block b (by rw[Xk];omega) (fun e=>hv b e.symm h.ownb),Below.heap_alloc _ _ _ (by omega),hb.block b hlt];exact h.head
theorem Xhg (h:SAt w own i b c s cl ch q cm o ev qe ce oe)(f:Fr)(fq:Option Addr)(fc:Nat)(hsrc:XU w fq f.info)(hl:s.out.length≤2199023255552):
  Calls Tryz.prog 151 #[.pointer (some ⟨b,0,none⟩),frV f fq fc] w fun e w'=>e=.returned (.tuple #[])∧∃own' o' oe',SAt w' own' i b c (put c f s) cl ch q cm o' ev qe ce oe'∧Upd i own own' w w':=by
 obtain⟨i1,hi1,hy0,hy1,hy2⟩:=info_parts QC;obtain⟨op,ocap,rfl,ho1,ho2⟩:=h.lo.slice;have c0:=h.c_m;have c20:=h.c_o;have hlt:=h.lt;have hpos:=h.pos;have hW:=fun V (hV:Below w.heap.size w V)=>write_any (c.m:Int) f fq fc V (h.ctl.below hV hpos) (Nat.lt_of_lt_of_le hpos hV.size) (hsrc.below hV (Nat.le_refl _))
 have HW:=hide hW;have H:=hide h;clear hW h hsrc;unfold frV at HW⊢;go_enter Tryz.func151,Tryz.ntmps151
 go_wp2_with fail
 go_region_with (go_at_call 32;refine(Xa HW _ ?_).mono ?_;(first|exact(Below.refl _ w).alloc (Nat.le_refl _) _|exact((Below.refl _ w).alloc (Nat.le_refl _) _).drew);rintro e w1 ⟨v,rfl,hv,_,hb⟩)
 all_goals
  have hb':Below w.heap.size w w1:=(((Below.refl _ w).alloc (Nat.le_refl _) _).drew).trans (hb.mono (by simp));have hv':=Xw hv (show w.heap.size≤_ by simp);have h1:=(Xa H).later hb';have HB:=hide hb';have HV:=hide hv';obtain⟨vp,vcap,hve⟩:=Yk hv;subst hve;have c20':=h1.c_o;have fz:=h1.fz;have HO:=hide (World.ownsRow.alloc h1.lo.row (.cells #[.slice vp (XT (c.m:Int) f).2.length vcap] 28));have HM1:Hid (s.out.length+1≤maxLen):=hide (by unfold maxLen;omega);have HM2:Hid ((s.out.length+1)*24≤140737488355328):=hide (by omega);clear hb hv hb' hv' h1 c0 c20 HW ho1 ho2;go_wp2_with (at_builtin;refine wpList_append_own_at _ rfl _ _ 38 rfl 0 28 i1 _ 1 24 Tryz.underlying38 hi1 hy0 hy1 hy2 rfl (by decide) _ _ _ rfl (Xa HO) ⟨w1.heap.size,0,none⟩ 1 1 [.slice vp (XT (c.m:Int) f).2.length vcap] rfl rfl (cell_one_new _ _ _) (JK _ _ _) (Xa HM1) (Xa HM2) (Nat.zero_le _) ?_)
  intro o' w3 hrow hg _ hob;obtain⟨p',cap',hoe'⟩:=Yk hrow;subst hoe';have h1:=Xa H;have hb':=Xa HB;have hh:=h1.JH hb' hg (fun k hk e=>Xz (i:=i) (j:=i) (p:=3) (q:=0) (by omega) (by omega) (.inr (by omega)) ((h1.lo.rown k hk).symm.trans e));have hS:=h1.pushed hb' (Xa HV) ((Below.refl _ w1).alloc (Nat.le_refl _) _) hg hrow (by rcases hob with e|e;exact .inl e;exact .inr ⟨_,e,by simp⟩);have HS:=hide hS;have fz3:∀j,w3.frozen? ⟨b,j,none⟩=false:=fun j=>Lib.frozen_of_heap hh j
  have c3:w3.cell? ⟨b,20,none⟩=some (.slice op s.out.length ocap):=by rw[Lib.cell_of_heap hh];rfl
  clear hS hob hrow hg hh hb' h1 fz c20' HO HV HB H;go_wp2
  go_end0
  exact⟨rfl,_,_,_,(Xa HS).1,(Xa HS).2⟩
end
section
variable {w W:World}{own:Nat→Nat}{i b:Nat}{c:Cfg}{s:St}{cl:Bool}{ch:Nat}{q cm o ev:Value}{qe ce oe:List Value}
theorem SAt.told (h:SAt w own i b c s cl ch q cm o ev qe ce oe){ev':Value}{n:Nat}{w2 w3:World}
  (hb2:Below w.heap.size w w2) (hg:w2.grownBy w3 ev.ownBlock) (hrow:w3.ownsRow 0 3 1 ev' (s.events.length+1) ((s.events.map fun n=>.int .i64 (n:Nat))++[.int .i64 (n:Nat)]))
  (hob:ev'.ownBlock=ev.ownBlock∨∃k,ev'.ownBlock=some k∧w2.heap.size≤k):
  SAt (w3.setCell ⟨b,21,none⟩ ev') (XZ own w.heap.size w3.heap.size (tg i 4)) i b c {s with events:=s.events++[n]} cl ch q cm o ev' qe ce oe∧Upd i own (XZ own w.heap.size w3.heap.size (tg i 4)) w (w3.setCell ⟨b,21,none⟩ ev'):=by
 have hz2:=hb2.size;have hz3:=hg.size
 have hob':∀k,ev'.ownBlock=some k→own k=tg i 4∨w.heap.size≤k:=by
  intro k hk;rcases hob with e|⟨k2,e,h2⟩
  ·rw[e]at hk;exact .inl (h.owne k hk)
  ·rw[e]at hk;simp at hk;omega
 have hK2:Xb (fun k=>some k=ev.ownBlock) w w3:=(Xb.of hb2).trans (Xb.grown hg);have hro:∀k,some k=ev.ownBlock→own k=tg i 4:=fun k hk=>h.owne k hk.symm
 have hold:∀k,k<w.heap.size→XZ own w.heap.size w3.heap.size (tg i 4) k=own k:=fun k hk=>XR hk
 have hbr:¬some b=ev.ownBlock:=fun e=>by have:=hro b e;rw[h.ownb]at this;exact Xz (by omega) (by omega) (.inr (by omega)) this
 have hlt:=h.lt;have hhead3:w3.heap[b]?=some (.cells (Zm c s ch q cm o ev) 135 (0,0)):=by rw[hK2.block b hlt hbr];exact h.head
 have hKb:Xb (· =b) w3 (w3.setCell ⟨b,21,none⟩ ev'):=(Xb.refl _ w3).setB _ _;have hK:Xb (fun k=>some k=ev.ownBlock∨k=b) w (w3.setCell ⟨b,21,none⟩ ev'):=(hK2.mono (fun _ h=>.inl h)).trans (hKb.mono (fun _ h=>.inr h))
 have hne:∀p,p<5→p≠0→p≠4→∀k,(some k=ev.ownBlock∨k=b)→own k≠tg i p:=by
  intro p hp h0 h3 k hk;rcases hk with hk|hk
  ·rw[hro k hk];exact Xz (by omega) hp (.inr (by omega))
  ·rw[hk,h.ownb];exact Xz (by omega) hp (.inr (by omega))
 have hlc:=(Array.getElem?_eq_some_iff.1 h.chan).1;have hcb:ch≠b:=fun e=>by have:=h.head;rw[← e,h.chan]at this;simp at this
 have hco:¬some ch=ev.ownBlock:=fun e=>by have:=hro ch e;rw[h.ownc]at this;exact Xz (by omega) (by omega) (.inr (by omega)) this
 refine⟨⟨?_,(hold b hlt).trans h.ownb,?_,(hold ch hlc).trans h.ownc,h.lq.keeps hK (hne 1 (by omega) (by omega) (by omega)) hold,h.lcm.keeps hK (hne 2 (by omega) (by omega) (by omega)) hold,h.lo.keeps hK (hne 3 (by omega) (by omega) (by omega)) hold,?_,?_,?_,(hold 0 h.pos).trans h.XC,fun k hk=>ZI (by omega) (by rw[size_setCell]at hk;exact hk),h.cok,h.sok.events _⟩,⟨?_,hold⟩⟩
 ·exact Xm hhead3 ev'
 ·rw[hK.block ch hlc (fun hx=>by rcases hx with hx|hx;exact hco hx;exact hcb hx)];exact h.chan
 ·have e1:(s.events++[n]).length=s.events.length+1:=by simp
  have e2:((s.events++[n]).map fun n=>Value.int .i64 (n:Nat))=(s.events.map fun n=>.int .i64 (n:Nat))++[.int .i64 (n:Nat)]:=by simp
  show World.ownsRow _ _ _ _ _ (s.events++[n]).length ((s.events++[n]).map _)
  rw[e1,e2];refine Xc hrow hKb (fun k hk e=> ?_);rcases hob' k hk with h1|h1
  ·rw[e,h.ownb]at h1;exact Xz (by omega) (by omega) (.inr (by omega)) h1
  ·omega
 ·intro k hk;rcases hob with e|⟨k2,e,h2⟩
  ·rw[e]at hk;have:=World.ownsRow.lt h.lev k hk;rw[XR this.2];exact h.owne k hk
  ·rw[e]at hk;simp at hk;have h4:=(World.ownsRow.lt hrow k2 e).2;exact YJ (by omega) (by omega)
 ·refine h.ctl.keeps hK h.pos (fun hx=> ?_);rcases hx with hx|hx
  ·have:=hro 0 hx;rw[h.XC]at this;exact Xq _ _ this.symm
  ·have:=h.ownb;rw[← hx,h.XC]at this;exact Xq _ _ this.symm
 ·exact hK.mono (fun k hk=>by rcases hk with hk|hk;exact⟨4,by omega,hro k hk⟩;exact⟨0,by omega,by rw[hk];exact h.ownb⟩)
theorem Xa6 (h:SAt w own i b c s cl ch q cm o ev qe ce oe)(n:Nat)(hl:s.events.length≤2199023255552):
  Calls Tryz.prog 154 #[.pointer (some ⟨b,0,none⟩),.int .i64 n] w fun e w'=>Did i b c (tell n s) cl own w e w':=by
 obtain⟨i1,hi1,hy0,hy1,hy2⟩:=info_parts XgE;obtain⟨op,ocap,hoe⟩:=Yk h.lev;subst hoe;have c21:=h.XoG;have fz:=h.fz;have hlt:=h.lt;have HO:=hide (World.ownsRow.alloc h.lev (.cells #[.int .i64 (n:Nat)] 3));have HM1:Hid (s.events.length+1≤maxLen):=hide (by unfold maxLen;omega);have HM2:Hid ((s.events.length+1)*8≤140737488355328):=hide (by omega);have H:=hide h;clear h;go_enter Tryz.func154,Tryz.ntmps154
 go_wp2_with (at_builtin;refine wpList_append_own_at _ rfl _ _ 62 rfl 0 3 i1 _ 1 8 Tryz.underlying62 hi1 hy0 hy1 hy2 rfl (by decide) _ _ _ rfl (Xa HO) ⟨w.heap.size,0,none⟩ 1 1 [.int .i64 (n:Nat)] rfl rfl (cell_one_new _ _ _) (XiL _ _) (Xa HM1) (Xa HM2) (Nat.zero_le _) ?_)
 intro o' w3 hrow hg _ hob;obtain⟨p',cap',hoe'⟩:=Yk hrow;subst hoe';have h1:=Xa H;have hh:=h1.JH (Below.refl _ w) hg (fun k hk e=>Xz (i:=i) (j:=i) (p:=4) (q:=0) (by omega) (by omega) (.inr (by omega)) ((h1.owne k hk).symm.trans e));have hS:=h1.told ((Below.refl _ w).alloc (Nat.le_refl _) _) hg hrow (by rcases hob with e|e;exact .inl e;exact .inr ⟨_,e,by simp⟩);have HS:=hide hS;have fz3:∀j,w3.frozen? ⟨b,j,none⟩=false:=fun j=>Lib.frozen_of_heap hh j
 have c3:w3.cell? ⟨b,21,none⟩=some (.slice op s.events.length ocap):=by rw[Lib.cell_of_heap hh];rfl
 clear hS hob hrow hg hh h1 fz c21 HO H;go_wp2
 go_end0
 exact⟨rfl,_,⟨_,_,_,_,_,_,_,_,(Xa HS).1⟩,(Xa HS).2⟩
theorem Qg (h:SAt w own i b c s cl ch q cm o ev qe ce oe)(f:Fr)(fq:Option Addr)(fc:Nat)(hsrc:XU w fq f.info)(hl:s.out.length≤2199023255552):
  Calls Tryz.prog 129 #[.pointer (some ⟨b,0,none⟩),frV f fq fc] w fun e w'=>Did i b c (Za c f s) cl own w e w':=by
 have c5:=h.Xf2;have hlt:=h.lt;have ha:=h.cok.addr;have HS:=hide (fun V (hV:Below w.heap.size w V)=>Xhg (h.later hV) {f with a:=4 -(c.addr:Int)} fq fc (hsrc.below hV (Nat.le_refl _)) hl);clear h hsrc;unfold frV at HS⊢;dsimp only at HS
 have ha1:c.addr≤3:=by omega
 clear ha;go_enter Tryz.func129,Tryz.ntmps129
 go_wp2_with fail
 refine(Xa HS _ ?_).mono ?_
 ·exact (Below.refl _ w).alloc (Nat.le_refl _) _
 rintro e w1 ⟨rfl,own',o',oe',h1,u1⟩;have HR:=hide (And.intro h1 u1);clear HS h1 u1;go_wp2
 go_end0
 exact⟨rfl,own',⟨_,_,_,_,_,_,_,_,(Xa HR).1⟩,((Xa HR).2).of ((Below.refl _ w).alloc (Nat.le_refl _) _)⟩
theorem QE (h:SAt w own i b c s cl ch q cm o ev qe ce oe)(f:Fr)(fq:Option Addr)(fc:Nat)(hsrc:XU w fq f.info)(hl:s.out.length≤2199023255552):
  Calls Tryz.prog 141 #[.pointer (some ⟨b,0,none⟩),frV f fq fc] w fun e w'=>Did i b c (QD c f s) cl own w e w':=by
 have c5:=h.Xf2;have hlt:=h.lt;have ha:=h.cok.addr;have HS:=hide (fun V (hV:Below w.heap.size w V)=>Xhg (h.later hV) {f with a:=(c.addr:Int)} fq fc (hsrc.below hV (Nat.le_refl _)) hl);clear h hsrc;unfold frV at HS⊢;dsimp only at HS
 have ha1:c.addr≤3:=by omega
 clear ha;go_enter Tryz.func141,Tryz.ntmps141
 go_wp2_with fail
 refine(Xa HS _ ?_).mono ?_
 ·exact (Below.refl _ w).alloc (Nat.le_refl _) _
 rintro e w1 ⟨rfl,own',o',oe',h1,u1⟩;have HR:=hide (And.intro h1 u1);clear HS h1 u1;go_wp2
 go_end0
 exact⟨rfl,own',⟨_,_,_,_,_,_,_,_,(Xa HR).1⟩,((Xa HR).2).of ((Below.refl _ w).alloc (Nat.le_refl _) _)⟩
end
section
variable {w W:World}{own:Nat→Nat}{i b:Nat}{c:Cfg}{s:St}{cl:Bool}{ch:Nat}{q cm o ev:Value}{qe ce oe:List Value}
def HeadAt (w:World)(b:Nat)(c:Cfg)(s:St)(ch:Nat)(q cm o ev:Value):Prop:=w.heap[b]?=some (.cells (Zm c s ch q cm o ev) 135 (0,0))
theorem HeadAt.state (h:HeadAt w b c s ch q cm o ev)(k:Nat):HeadAt (w.setCell ⟨b,7,none⟩ (.int .i64 k)) b c {s with state:=k} ch q cm o ev:=Xm h _
theorem HeadAt.vs (h:HeadAt w b c s ch q cm o ev)(k:Nat):HeadAt (w.setCell ⟨b,8,none⟩ (.int .i64 k)) b c {s with vs:=k} ch q cm o ev:=Xm h _
theorem HeadAt.va (h:HeadAt w b c s ch q cm o ev)(k:Nat):HeadAt (w.setCell ⟨b,9,none⟩ (.int .i64 k)) b c {s with va:=k} ch q cm o ev:=Xm h _
theorem HeadAt.vr (h:HeadAt w b c s ch q cm o ev)(k:Nat):HeadAt (w.setCell ⟨b,10,none⟩ (.int .i64 k)) b c {s with vr:=k} ch q cm o ev:=Xm h _
theorem HeadAt.vm (h:HeadAt w b c s ch q cm o ev)(k:Nat):HeadAt (w.setCell ⟨b,11,none⟩ (.int .i64 k)) b c {s with vm:=k} ch q cm o ev:=Xm h _
theorem HeadAt.timer (h:HeadAt w b c s ch q cm o ev)(k:Nat):HeadAt (w.setCell ⟨b,13,none⟩ (.int .i64 k)) b c {s with timer:=k} ch q cm o ev:=Xm h _
theorem HeadAt.tries (h:HeadAt w b c s ch q cm o ev)(k:Nat):HeadAt (w.setCell ⟨b,14,none⟩ (.int .i64 k)) b c {s with tries:=k} ch q cm o ev:=Xm h _
theorem HeadAt.Xh (h:HeadAt w b c s ch q cm o ev)(k:Bool):HeadAt (w.setCell ⟨b,15,none⟩ (.bool k)) b c {s with Xh:=k} ch q cm o ev:=Xm h _
theorem HeadAt.peer (h:HeadAt w b c s ch q cm o ev)(k:Bool):HeadAt (w.setCell ⟨b,16,none⟩ (.bool k)) b c {s with peer:=k} ch q cm o ev:=Xm h _
theorem HeadAt.Xu (h:HeadAt w b c s ch q cm o ev)(k:Bool):HeadAt (w.setCell ⟨b,17,none⟩ (.bool k)) b c {s with Xu:=k} ch q cm o ev:=Xm h _
theorem HeadAt.busy (h:HeadAt w b c s ch q cm o ev)(k:Bool):HeadAt (w.setCell ⟨b,18,none⟩ (.bool k)) b c {s with busy:=k} ch q cm o ev:=Xm h _
theorem HeadAt.lq (h:HeadAt w b c s ch q cm o ev)(k:Value):HeadAt (w.setCell ⟨b,12,none⟩ k) b c s ch k cm o ev:=Xm h _
theorem HeadAt.lcm (h:HeadAt w b c s ch q cm o ev)(k:Value):HeadAt (w.setCell ⟨b,19,none⟩ k) b c s ch q k o ev:=Xm h _
theorem HeadAt.lo (h:HeadAt w b c s ch q cm o ev)(k:Value):HeadAt (w.setCell ⟨b,20,none⟩ k) b c s ch q cm k ev:=Xm h _
theorem HeadAt.lev (h:HeadAt w b c s ch q cm o ev)(k:Value):HeadAt (w.setCell ⟨b,21,none⟩ k) b c s ch q cm o k:=Xm h _
theorem HeadAt.as (h:HeadAt w b c s ch q cm o ev)(s':St)(e:s'={s with queue:=s'.queue,came:=s'.came,out:=s'.out,events:=s'.events}):HeadAt w b c s' ch q cm o ev:=by
 rw[e];exact h
theorem SAt.hd (h:SAt w own i b c s cl ch q cm o ev qe ce oe):HeadAt w b c s ch q cm o ev:=h.head
def XB (v v':Value)(es es':List Value)(l l':List Msg):Prop:=(v'=v∧es'=es∧l'=l)∨(v'=.slice none 0 0∧es'=[]∧l'=[])
theorem XB.same {v:Value}{es:List Value}{l:List Msg}:XB v v es es l l:=.inl ⟨rfl,rfl,rfl⟩
theorem XB.gone {v:Value}{es:List Value}{l:List Msg}:XB v (.slice none 0 0) es [] l []:=.inr ⟨rfl,rfl,rfl⟩
theorem XB.lst {w:World}{own:Nat→Nat}{t:Nat}{v v':Value}{es es':List Value}{l l':List Msg}(h:XB v v' es es' l l')(k:Lst w own t v es l):Lst w own t v' es' l':=by
 rcases h with⟨rfl,rfl,rfl⟩|⟨rfl,rfl,rfl⟩
 ·exact k
 ·exact Lst.nil _ _ _
theorem SAt.YL (h:SAt w own i b c s cl ch q cm o ev qe ce oe){s':St}{w':World}{q' cm' o' ev':Value}{qe' ce' oe':List Value}(hk:Xb (· =b) w w')(hh:HeadAt w' b c s' ch q' cm' o' ev')
  (e1:XB q q' qe qe' s.queue s'.queue) (e2:XB cm cm' ce ce' s.came s'.came) (e3:XB o o' oe oe' s.out s'.out) (e4:(ev'=ev∧s'.events=s.events)∨(ev'=.slice none 0 0∧s'.events=[])) (hok:s'.fit c):SAt w' own i b c s' cl ch q' cm' o' ev' qe' ce' oe':=by
 have hne:∀p,p≠0→p<5→∀k,k=b→own k≠tg i p:=fun p hp hp5 k hk=>by rw[hk,h.ownb];exact Xz (by omega) hp5 (.inr (fun e=>hp e.symm))
 have hchb:ch≠b:=fun e=>by have:=h.head;rw[← e,h.chan]at this;simp at this
 refine⟨hh,h.ownb,by rw[hk.block ch (Array.getElem?_eq_some_iff.1 h.chan).1 hchb];exact h.chan,h.ownc,?_,?_,?_,?_,?_,h.ctl.keeps hk h.pos (fun e=> ?_),h.XC,fun k hs=>h.Xp k (Nat.le_trans hk.size hs),h.cok,hok⟩
 ·exact e1.lst (h.lq.keeps hk (hne 1 (by omega) (by omega)) (fun _ _=>rfl))
 ·exact e2.lst (h.lcm.keeps hk (hne 2 (by omega) (by omega)) (fun _ _=>rfl))
 ·exact e3.lst (h.lo.keeps hk (hne 3 (by omega) (by omega)) (fun _ _=>rfl))
 ·rcases e4 with⟨rfl,e⟩|⟨rfl,e⟩
  ·rw[e];exact Xc h.lev hk (fun k hb hX=>hne 4 (by omega) (by omega) k hX (h.owne k hb))
  ·rw[e];exact World.ownsRow_nil _ _ _ _
 ·rcases e4 with⟨rfl,e⟩|⟨rfl,e⟩
  ·exact h.owne
  ·intro k hk;simp[Value.ownBlock]at hk
 ·have:=h.ownb;rw[← e,h.XC]at this;exact Xq _ _ this.symm
theorem Xfg (hc:c.ok)(h:St.fit c s):St.fit c (over s):=JC hc h s.state h.state 0 0 (Nat.zero_le _) (Nat.zero_le _)
theorem Js (h:SAt w own i b c s cl ch q cm o ev qe ce oe):
  Calls Tryz.prog 128 #[.pointer (some ⟨b,0,none⟩)] w fun e w'=>e=.returned (.tuple #[])∧SAt w' own i b c (over s) cl ch (.slice none 0 0) cm o ev [] ce oe∧Upd i own own w w':=by
 have c8:=h.Xas;have c9:=h.Xi4;have c10:=h.Xce;have c11:=h.Xf4;have c12:=h.c_q;have c13:=h.J7;have c14:=h.Xbp;have c15:=h.Zz;have c16:=h.XaS;have c17:=h.XdB;have fz:=h.fz;have hlt:=h.lt;have H:=hide h;clear h;go_enter Tryz.func128,Tryz.ntmps128
 go_wp2
 go_end0
 have h:=Xa H;have hK:Xb (· =b) w _:=((((((((((Xb.refl _ w).setB 8 (.int .i64 0)).setB 9 (.int .i64 0)).setB 10 (.int .i64 0)).setB 11 (.int .i64 0)).setB 12 (.slice none 0 0)).setB 13 (.int .i64 0)).setB 14 (.int .i64 0)).setB 15 (.bool false)).setB 16 (.bool false)).setB 17 (.bool false);exact⟨rfl,h.YL hK (((((((((((h.hd.vs 0).va 0).vr 0).vm 0).lq _).timer 0).tries 0).Xh false).peer false).Xu false).as (over s) rfl) XB.gone XB.same XB.same (.inl ⟨rfl,rfl⟩) (Xfg h.cok h.sok),h.upd hK⟩
end
section
variable {w W:World}{own:Nat→Nat}{i b:Nat}{c:Cfg}{s:St}{cl:Bool}{ch:Nat}{q cm o ev:Value}{qe ce oe:List Value}
theorem Xe6:(Tryz.prog.info? 5).map (fun i=>(i.zero,i.size,i.bytes))=some (some (.int .u8 0),1,1):=by kernel_rfl
theorem Xfc (n:Nat)(hn:n≤1099511627784)(w:World):(Instr.makeSlice 28 (.int .i64 (n:Int)) (.int .i64 (n:Int))).run Tryz.prog w=.ok (.slice (some ⟨w.heap.size,0,none⟩) n n) (w.alloc (.cells (Lib.byteCells (List.replicate n 0)).toArray 5)):=by
 obtain⟨i0,hi,hz0,hz1,hz2⟩:=info_parts Xe6;rw[run_make w 28 5 i0 (.int .u8 0) Tryz.underlying28 hi hz0 .i64 .i64 n n (by omega) (Int.le_refl _) (by rw[hz2];omega) (by omega)]
 have e:madeCells (Value.cells (.int .u8 0)) ((n:Int).toNat*i0.size)=(Lib.byteCells (List.replicate n 0)).toArray:=by
  rw[hz1];apply Array.ext
  ·simp[size_madeCells,Lib.byteCells]
  ·intro j h1 h2;simp[madeCells,Value.cells,Lib.byteCells,Nat.mod_one]
 rw[e];simp
theorem Xhl (n:Nat)(w:World):XU (w.alloc (.cells (Lib.byteCells (List.replicate n 0)).toArray 5)) (some ⟨w.heap.size,0,none⟩) (List.replicate n 0):=by
 refine .inr ⟨w.heap.size,0,rfl,by rw[Xk];omega,?_⟩;intro j hj;rw[Lib.cell_of_heap (Xg w _)];simp only[List.length_replicate]at hj;simp[Lib.byteCells,hj]
theorem Xgi (a k:Int)(p:Bool)(ns nr:Int)(n:Nat)(q:Option Addr):frV ⟨a,k,p,ns,nr,List.replicate n 0⟩ q n=.agg #[.int .i64 a,.int .i64 k,.bool p,.int .i64 ns,.int .i64 nr,.slice q n n]:=by
 unfold frV;simp
theorem Qh {w w1:World}{own own1:Nat→Nat}{i:Nat}{x:Obj}(u:Upd i own own1 (w.alloc x) w1)(h0:own w.heap.size=0):w1.heap[w.heap.size]?=some x:=by
 rw[u.keeps.block w.heap.size (by rw[Xk];omega) (by rintro⟨p,_,e⟩;rw[h0]at e;exact Xq _ _ e.symm)];exact Xg w x
theorem Xt {w:World}{B:Nat}{a b c d e f:Value}{t:TypeId}(h:w.heap[B]?=some (.cells #[a,b,c,d,e,f] t (0,0))):
  w.cell? ⟨B,0,none⟩=some a∧w.cell? ⟨B,1,none⟩=some b∧w.cell? ⟨B,2,none⟩=some c∧w.cell? ⟨B,3,none⟩=some d∧w.cell? ⟨B,4,none⟩=some e∧w.cell? ⟨B,5,none⟩=some f:=by
 refine⟨?_,?_,?_,?_,?_,?_⟩ <;>(rw[Lib.cell_of_heap h];rfl)
theorem Xae (w:World):XU w none []:=.inl ⟨rfl,rfl⟩
theorem JA (a k:Int)(p:Bool)(ns nr:Int):frV ⟨a,k,p,ns,nr,[]⟩ none 0=.agg #[.int .i64 a,.int .i64 k,.bool p,.int .i64 ns,.int .i64 nr,.slice none 0 0]:=rfl
theorem XiE (h:SAt w own i b c s cl ch q cm o ev qe ce oe)(state kind:Nat)(hst:state=1∨state=3)(hl:s.out.length≤2199023255552):
  Calls Tryz.prog 97 #[.pointer (some ⟨b,0,none⟩),.int .i64 state,.int .i64 kind] w fun e w'=>Did i b c (ask c state kind s) cl own w e w':=by
 have HS:=hide (Js h);have hlt:=h.lt;clear h;go_enter Tryz.func97,Tryz.ntmps97
 go_wp2_with fail
 refine(Xa HS).mono ?_;rintro e w1 ⟨rfl,h1,u1⟩;have c2:=h1.Xi3;have fz:=h1.fz;have c7:=h1.Qp;have c13:=h1.J7;have c14:=h1.Xbp;have hlt1:=h1.lt;have hK:Xb (· =b) w1 _:=(((Xb.refl _ w1).setB 7 (.int .i64 state)).setB 14 (.int .i64 1)).setB 13 (.int .i64 c.tim);have h2:=h1.YL hK ((((h1.hd.state state).tries 1).timer c.tim).as {over s with state:=state,tries:=1,timer:=c.tim} rfl) XB.same XB.same XB.same (.inl ⟨rfl,rfl⟩) (JC h1.cok h1.sok state (by omega) c.tim 1 (Nat.le_refl _) h1.cok.tri1);have k3:=Qg h2 ⟨0,kind,true,0,0,[]⟩ none 0 (Xae _) hl;rw[JA]at k3;have H3:=hide k3;have HU:=hide (u1.trans (h1.upd hK));clear k3 h2 hK u1 h1 HS;go_wp2_with fail
 refine(Xa H3).mono ?_;rintro e w2 ⟨rfl,own2,h3,u3⟩;have HR:=hide (And.intro h3 ((Xa HU).trans u3));clear h3 u3 H3 HU c2 fz c7 c13 c14;go_wp2
 go_end0
 exact⟨rfl,_,(Xa HR).1,(Xa HR).2⟩
theorem Xf6 (h:SAt w own i b c s cl ch q cm o ev qe ce oe)(hl:s.out.length≤2199023255552):
  Calls Tryz.prog 95 #[.pointer (some ⟨b,0,none⟩)] w fun e w'=>Did i b c (Xaj c s) cl own w e w':=by
 have HS:=hide (XiE h 1 5 (.inl rfl) hl);clear h;go_enter Tryz.func95,Tryz.ntmps95
 go_wp2_with fail
 refine(Xa HS).mono ?_;rintro e w1 ⟨rfl,own2,h3,u3⟩;have HR:=hide (And.intro h3 u3);clear h3 u3 HS;go_wp2
 go_end0
 exact⟨rfl,_,(Xa HR).1,(Xa HR).2⟩
theorem JS (h:SAt w own i b c s cl ch q cm o ev qe ce oe)(n:Nat)(hl:s.events.length≤2199023255552):
  Calls Tryz.prog 134 #[.pointer (some ⟨b,0,none⟩),.int .i64 n] w fun e w'=>Did i b c (Zi n s) cl own w e w':=by
 have HS:=hide (Js h);have hlt:=h.lt;clear h;go_enter Tryz.func134,Tryz.ntmps134
 go_wp2_with fail
 refine(Xa HS).mono ?_;rintro e w1 ⟨rfl,h1,u1⟩;have fz:=h1.fz;have c7:=h1.Qp;have hlt1:=h1.lt;have hK:Xb (· =b) w1 _:=(Xb.refl _ w1).setB 7 (.int .i64 (0:Nat));have h2:=h1.YL hK ((h1.hd.state 0).as {over s with state:=0} rfl) XB.same XB.same XB.same (.inl ⟨rfl,rfl⟩) (JC h1.cok h1.sok 0 (by omega) 0 0 (Nat.zero_le _) (Nat.zero_le _));have H3:=hide (Xa6 h2 n hl);have HU:=hide (u1.trans (h1.upd hK));clear h2 hK u1 h1 HS;go_wp2_with fail
 refine(Xa H3).mono ?_;rintro e w2 ⟨rfl,own2,h3,u3⟩;have HR:=hide (And.intro h3 ((Xa HU).trans u3));clear h3 u3 H3 HU c7 fz;go_wp2
 go_end0
 exact⟨rfl,_,(Xa HR).1,(Xa HR).2⟩
theorem XdE (h:SAt w own i b c s cl ch q cm o ev qe ce oe)(n:Nat)(hl:s.events.length≤2199023255552):
  Calls Tryz.prog 161 #[.pointer (some ⟨b,0,none⟩),.int .i64 n] w fun e w'=>Did i b c (Xap n s) cl own w e w':=by
 have HS:=hide (Js h);have hlt:=h.lt;clear h;go_enter Tryz.func161,Tryz.ntmps161
 go_wp2_with fail
 refine(Xa HS).mono ?_;rintro e w1 ⟨rfl,h1,u1⟩;have fz:=h1.fz;have c7:=h1.Qp;have hlt1:=h1.lt;have hK:Xb (· =b) w1 _:=(Xb.refl _ w1).setB 7 (.int .i64 (2:Nat));have h2:=h1.YL hK ((h1.hd.state 2).as {over s with state:=2} rfl) XB.same XB.same XB.same (.inl ⟨rfl,rfl⟩) (JC h1.cok h1.sok 2 (by omega) 0 0 (Nat.zero_le _) (Nat.zero_le _));have H3:=hide (Xa6 h2 n hl);have HU:=hide (u1.trans (h1.upd hK));clear h2 hK u1 h1 HS;go_wp2_with fail
 refine(Xa H3).mono ?_;rintro e w2 ⟨rfl,own2,h3,u3⟩;have HR:=hide (And.intro h3 ((Xa HU).trans u3));clear h3 u3 H3 HU c7 fz;go_wp2
 go_end0
 exact⟨rfl,_,(Xa HR).1,(Xa HR).2⟩
theorem Qk (h:SAt w own i b c s cl ch q cm o ev qe ce oe)(k:Nat)(f:Fr)(fq:Option Addr)(fc:Nat)(hl:s.out.length≤2199023255552):
  Calls Tryz.prog 160 #[.pointer (some ⟨b,0,none⟩),.int .i64 k,frV f fq fc] w fun e w'=>Did i b c (Yj c k f.p s) cl own w e w':=by
 have hlt:=h.lt;have hk:=fun V (hV:Below w.heap.size w V)=>QE (h.later hV) ⟨0,k,f.p,0,0,[]⟩ none 0 (Xae _) hl
 simp only[JA]at hk;have HS:=hide hk;clear h hk;unfold frV;go_enter Tryz.func160,Tryz.ntmps160
 go_wp2_with fail
 refine(Xa HS _ ?_).mono ?_
 ·exact (Below.refl _ w).alloc (Nat.le_refl _) _
 rintro e w1 ⟨rfl,own2,h3,u3⟩;have HR:=hide (And.intro h3 (u3.of ((Below.refl _ w).alloc (Nat.le_refl _) _)));clear h3 u3 HS;go_wp2
 go_end0
 exact⟨rfl,_,(Xa HR).1,(Xa HR).2⟩
theorem Q7 (h:SAt w own i b c s cl ch q cm o ev qe ce oe)(p:Bool)(hl:s.out.length≤2199023255552):
  Calls Tryz.prog 119 #[.pointer (some ⟨b,0,none⟩),.bool p] w fun e w'=>Did i b c (answer c p s) cl own w e w':=by
 have hlt:=h.lt;have c10:=h.Xce;have HR1:=hide (fun V (hV:Below w.heap.size w V)=>Xb4 (h.later hV));have hk:=fun V (hV:Below w.heap.size w V)=>QE (h.later hV) ⟨0,ready c s,p,0,s.vr,[]⟩ none 0 (Xae _) hl
 simp only[JA]at hk;have HS:=hide hk;clear h hk;go_enter Tryz.func119,Tryz.ntmps119
 go_wp2_with fail
 go_region_with (first|(go_at_call 135;refine(Xa HR1 _ ?_).mono ?_;(first|exact Below.refl _ _|exact(Below.refl _ w).drew);rintro e w1 ⟨rfl,k,rfl⟩)|(go_at_call 141;refine(Xa HS _ ?_).mono ?_;(first|exact Below.refl _ _|exact(Below.refl _ w).drew|exact below_drewN (Below.refl _ w) _);rintro e w2 ⟨rfl,own2,h3,u3⟩))
 all_goals
  have HR:=hide (And.intro h3 (Upd.of (w:=w) (by first|exact Below.refl _ _|exact(Below.refl _ w).drew|exact below_drewN (Below.refl _ w) _) u3));clear h3 u3 HS;go_wp2
  go_end0
  exact⟨rfl,_,(Xa HR).1,(Xa HR).2⟩
theorem Xd8 (h:SAt w own i b c s cl ch q cm o ev qe ce oe)(p:Bool)(hl:s.out.length≤2199023255552):
  Calls Tryz.prog 164 #[.pointer (some ⟨b,0,none⟩),.bool p] w fun e w'=>Did i b c (report c p s) cl own w e w':=by
 have hlt:=h.lt;have c0:=h.c_m;have hm:=h.cok.m
 obtain⟨n,hn,hn5⟩:∃n:Nat,JE c.m=n∧n≤5:=by
  rcases hm with e|e
  ·exact ⟨3,by rw[e];rfl,by omega⟩
  ·exact ⟨5,by rw[e];rfl,by omega⟩
 have k1:=Xbh (c.m:Int) w;rw[hn]at k1;have hpost:report c p s=QD c ⟨0,9,p,0,0,List.replicate n 0⟩ s:=by unfold report;rw[hn];rfl
 have hbl:Below w.heap.size w (w.alloc (.cells (Lib.byteCells (List.replicate n 0)).toArray 5)):=(Below.refl _ w).alloc (Nat.le_refl _) _;have k2:=QE (h.later hbl) ⟨0,9,p,0,0,List.replicate n 0⟩ (some ⟨w.heap.size,0,none⟩) n (Xhl n w) hl;rw[Xgi]at k2;have H1:=hide k1;have H2:=hide k2;have hmk:=Xfc n (by omega) w;rw[hpost];generalize hz:(Lib.byteCells (List.replicate n 0)).toArray=zs at H2 hmk hbl;have HB:=hide hbl;clear h k1 k2 hpost hn hz hbl hm;go_enter Tryz.func164,Tryz.ntmps164
 go_wp2_with fail
 refine(Xa H1).mono ?_;rintro e w1 ⟨rfl,rfl⟩;go_wp2_with fail
 refine(Xa H2).mono ?_;rintro e w2 ⟨rfl,own2,h3,u3⟩;have HR:=hide (And.intro h3 (Upd.of (Xa HB) u3));clear h3 u3 H2 HB hmk;go_wp2
 go_end0
 exact⟨rfl,_,(Xa HR).1,(Xa HR).2⟩
theorem Xdw (h:SAt w own i b c s cl ch q cm o ev qe ce oe)(n:Nat)(f:Fr)(fq:Option Addr)(fc:Nat)(hl:s.out.length≤2199023255552)(hl2:s.events.length≤2199023255552):
  Calls Tryz.prog 159 #[.pointer (some ⟨b,0,none⟩),frV f fq fc,.int .i64 n] w fun e w'=>Did i b c (accept c f.p n s) cl own w e w':=by
 have hlt:=h.lt;have hn0:=h.Xp w.heap.size (Nat.le_refl _);have HS:=hide (fun V (hV:Below w.heap.size w V)=>XdE (h.later hV) n hl2);clear h;unfold frV;go_enter Tryz.func159,Tryz.ntmps159
 go_wp2_with fail
 refine(Xa HS _ ?_).mono ?_
 ·exact (Below.refl _ w).alloc (Nat.le_refl _) _
 rintro e w1 ⟨rfl,own1,⟨ch1,q1,cm1,o1,ev1,qe1,ce1,oe1,h1⟩,u1⟩;obtain⟨y0,y1,y2,y3,y4,y5⟩:=Xt (Qh u1 hn0);have hk:=Qk h1 7 f fq fc hl;unfold frV at hk;have H2:=hide hk;have HU:=hide (u1.of ((Below.refl _ w).alloc (Nat.le_refl _) _));clear hk h1 u1 HS;go_wp2_with fail
 refine(Xa H2).mono ?_;rintro e w2 ⟨rfl,own2,h3,u3⟩;have HR:=hide (And.intro h3 ((Xa HU).trans u3));clear h3 u3 H2 HU y0 y1 y2 y3 y4 y5;go_wp2
 go_end0
 exact⟨rfl,_,(Xa HR).1,(Xa HR).2⟩
theorem Xks (h:SAt w own i b c s cl ch q cm o ev qe ce oe)(f:Fr)(fq:Option Addr)(fc:Nat)(hl:s.out.length≤2199023255552)(hl2:s.events.length≤2199023255552):
  Calls Tryz.prog 162 #[.pointer (some ⟨b,0,none⟩),frV f fq fc] w fun e w'=>Did i b c (agree c f.p s) cl own w e w':=by
 have hlt:=h.lt;have hk:=fun V (hV:Below w.heap.size w V)=>Qk (h.later hV) 7 f fq fc hl
 unfold frV at hk⊢;have HS:=hide hk;clear h hk;go_enter Tryz.func162,Tryz.ntmps162
 go_wp2_with fail
 refine(Xa HS _ ?_).mono ?_
 ·exact (Below.refl _ w).alloc (Nat.le_refl _) _
 rintro e w1 ⟨rfl,own1,⟨ch1,q1,cm1,o1,ev1,qe1,ce1,oe1,h1⟩,u1⟩;have H2:=hide (JS h1 3 hl2);have HU:=hide (u1.of ((Below.refl _ w).alloc (Nat.le_refl _) _));clear h1 u1 HS;go_wp2_with fail
 refine(Xa H2).mono ?_;rintro e w2 ⟨rfl,own2,h3,u3⟩;have HR:=hide (And.intro h3 ((Xa HU).trans u3));clear h3 u3 H2 HU;go_wp2
 go_end0
 exact⟨rfl,_,(Xa HR).1,(Xa HR).2⟩
end
section
variable {w W:World}{own:Nat→Nat}{i b:Nat}{c:Cfg}{s:St}{cl:Bool}{ch:Nat}{q cm o ev:Value}{qe ce oe:List Value}
theorem Did.of {s':St}{e:Ending}{w':World}(hb:Below w.heap.size w W)(h:Did i b c s' cl own W e w'):Did i b c s' cl own w e w':=⟨h.1,h.2.choose,h.2.choose_spec.1,h.2.choose_spec.2.of hb⟩
theorem SAt.did (h:SAt w own i b c s cl ch q cm o ev qe ce oe){s':St}{w':World}(hk:Xb (· =b) w w')(hh:HeadAt w' b c s' ch q cm o ev)(e1:s'.queue=s.queue)(e2:s'.came=s.came)(e3:s'.out=s.out)(e4:s'.events=s.events)(hok:s'.fit c):Did i b c s' cl own w (.returned (.tuple #[])) w':=
 ⟨rfl,own,⟨_,_,_,_,_,_,_,_,h.wrote hk hh e1 e2 e3 e4 hok⟩,h.upd hk⟩
theorem SAt.idle (h:SAt w own i b c s cl ch q cm o ev qe ce oe):Did i b c s cl own w (.returned (.tuple #[])) w:=⟨rfl,own,⟨_,_,_,_,_,_,_,_,h⟩,Upd.refl _ _ _⟩
theorem SAt.idleB (h:SAt w own i b c s cl ch q cm o ev qe ce oe){w':World}(hb:Below w.heap.size w w'):Did i b c s cl own w (.returned (.tuple #[])) w':=⟨rfl,own,⟨_,_,_,_,_,_,_,_,h.later hb⟩,(Upd.refl i own w').of hb⟩
theorem J9 (h:SAt w own i b c s cl ch q cm o ev qe ce oe)(nr:Nat)(hnr:nr<c.m):
  Calls Tryz.prog 173 #[.pointer (some ⟨b,0,none⟩),.int .i64 nr] w fun e w'=>Did i b c ({s with Xh:=false,vs:=nr,timer:=0}) cl own w e w':=by
 have c15:=h.Zz;have c8:=h.Xas;have c13:=h.J7;have fz:=h.fz;have hlt:=h.lt;have H:=hide h;clear h;go_enter Tryz.func173,Tryz.ntmps173
 go_wp2
 go_end0
 have h:=Xa H;exact h.did (((((Xb.refl _ w).setB 15 (.bool false)).setB 8 (.int .i64 nr)).setB 13 (.int .i64 (0:Nat)))) ((((h.hd.Xh false).vs nr).timer 0).as {s with Xh:=false,vs:=nr,timer:=0} rfl) rfl rfl rfl rfl ⟨h.sok.state,hnr,h.sok.va,h.sok.vr,h.sok.vm,h.sok.q20,h.sok.q32,Nat.zero_le _,h.sok.tries,h.sok.came⟩
theorem Xhh (h:SAt w own i b c s cl ch q cm o ev qe ce oe):
  Calls Tryz.prog 132 #[.pointer (some ⟨b,0,none⟩)] w fun e w'=>Did i b c (XV c s) cl own w e w':=by
 have c9:=h.Xi4;have c11:=h.Xf4;have c16:=h.XaS;have c13:=h.J7;have c14:=h.Xbp;have c2:=h.Xi3;have fz:=h.fz;have hlt:=h.lt;have f1:St.fit c {s with timer:=0}:=⟨h.sok.state,h.sok.vs,h.sok.va,h.sok.vr,h.sok.vm,h.sok.q20,h.sok.q32,Nat.zero_le _,h.sok.tries,h.sok.came⟩;have f2:St.fit c {s with timer:=c.tim,tries:=1}:=⟨h.sok.state,h.sok.vs,h.sok.va,h.sok.vr,h.sok.vm,h.sok.q20,h.sok.q32,Nat.le_refl _,h.cok.tri1,h.sok.came⟩;have F1:=hide f1;have F2:=hide f2;have H:=hide h;clear h f1 f2
 have done0:∀n,Did i b c {s with timer:=0} cl own w (.returned (.tuple #[])) ((w.drewN n).setCell ⟨b,13,none⟩ (.int .i64 (0:Nat))):=fun n=>by
  have h:=(Xa H).drewN n;exact Did.of (below_drewN (Below.refl _ w) n) (h.did ((Xb.refl _ _).setB 13 (.int .i64 (0:Nat))) ((h.hd.timer 0).as {s with timer:=0} rfl) rfl rfl rfl rfl (Xa F1))
 have done1:∀n,Did i b c {s with timer:=c.tim,tries:=1} cl own w (.returned (.tuple #[])) (((w.drewN n).setCell ⟨b,13,none⟩ (.int .i64 c.tim)).setCell ⟨b,14,none⟩ (.int .i64 (1:Nat))):=fun n=>by
  have h:=(Xa H).drewN n;exact Did.of (below_drewN (Below.refl _ w) n) (h.did (((Xb.refl _ _).setB 13 (.int .i64 c.tim)).setB 14 (.int .i64 (1:Nat))) (((h.hd.timer c.tim).tries 1).as {s with timer:=c.tim,tries:=1} rfl) rfl rfl rfl rfl (Xa F2))
 have done2:∀n,Did i b c s cl own w (.returned (.tuple #[])) (w.drewN n):=fun n=>(Xa H).idleB (below_drewN (Below.refl _ w) n)
 have D0:=hide done0;have D1:=hide done1;have D2:=hide done2;clear done0 done1 done2 F1 F2 H;unfold XV;by_cases hv:s.va=s.vm
 ·have t1:((s.va:Int)==(s.vm:Int))=true:=by simp[hv]
  by_cases hp:s.peer=false
  ·rw[if_pos ⟨hv,hp⟩];rw[hp]at c16;clear hp hv;go_enter Tryz.func132,Tryz.ntmps132
   go_wp2
   go_quiet (fail)
   go_wp2
   go_end0
   exact Xa D0 _
  ·rw[if_neg (fun hh=>hp hh.2)];rw[eq_true_of_ne_false hp]at c16;clear hp hv;by_cases h0:s.timer=0
   ·rw[if_pos h0];have t2:((s.timer:Int)==0)=true:=by simp[h0]
    clear h0;go_enter Tryz.func132,Tryz.ntmps132
    go_wp2
    go_quiet (fail)
    go_wp2
    go_end0
    exact Xa D1 _
   ·rw[if_neg h0];have t2:((s.timer:Int)==0)=false:=by simp[h0]
    clear h0;go_enter Tryz.func132,Tryz.ntmps132
    go_wp2
    go_quiet (fail)
    go_wp2
    go_end0
    exact Xa D2 _
 ·have t1:((s.va:Int)==(s.vm:Int))=false:=by simp;omega
  rw[if_neg (by simp[hv])];clear hv;by_cases h0:s.timer=0
  ·rw[if_pos h0];have t2:((s.timer:Int)==0)=true:=by simp[h0]
   clear h0;go_enter Tryz.func132,Tryz.ntmps132
   go_wp2
   go_quiet (fail)
   go_wp2
   go_end0
   exact Xa D1 _
  ·rw[if_neg h0];have t2:((s.timer:Int)==0)=false:=by simp[h0]
   clear h0;go_enter Tryz.func132,Tryz.ntmps132
   go_wp2
   go_quiet (fail)
   go_wp2
   go_end0
   exact Xa D2 _
end
section
variable {w W:World}{own:Nat→Nat}{i b:Nat}{c:Cfg}{s:St}{cl:Bool}{q cm o ev:Value}{ce oe:List Value}
theorem TAt.drewN (h:TAt w own i b c s cl q cm o ev ce oe)(n:Nat):TAt (w.drewN n) own i b c s cl q cm o ev ce oe:=
 h.others (X:=fun _=>False) ((Xb.refl _ w).drewN n) (fun _ hX=>absurd hX id) (fun _ _=>rfl) h.Xp
theorem TAt.JH (h:TAt w own i b c s cl q cm o ev ce oe){w1 w3:World}{x:Obj}{v:Value}(hb:Below w.heap.size w w1)(hg:(w1.alloc x).grownBy w3 v.ownBlock)(hv:∀k,v.ownBlock=some k→own k≠tg i 0):w3.heap[b]?=some (.cells (Zn c s cl q cm o ev) 137 (0,0)):=by
 have hlt:=h.lt;have hz:=hb.size;rw[hg.block b (by rw[Xk];omega) (fun e=>hv b e.symm h.ownb),Below.heap_alloc _ _ _ (by omega),hb.block b hlt];exact h.head
theorem TAt.told (h:TAt w own i b c s cl q cm o ev ce oe){ev':Value}{n:Nat}{w2 w3:World}
  (hb2:Below w.heap.size w w2) (hg:w2.grownBy w3 ev.ownBlock) (hrow:w3.ownsRow 0 3 1 ev' (s.events.length+1) ((s.events.map fun n=>.int .i64 (n:Nat))++[.int .i64 (n:Nat)]))
  (hob:ev'.ownBlock=ev.ownBlock∨∃k,ev'.ownBlock=some k∧w2.heap.size≤k):
  TAt (w3.setCell ⟨b,20,none⟩ ev') (XZ own w.heap.size w3.heap.size (tg i 4)) i b c {s with events:=s.events++[n]} cl q cm o ev' ce oe∧Upd i own (XZ own w.heap.size w3.heap.size (tg i 4)) w (w3.setCell ⟨b,20,none⟩ ev'):=by
 have hz2:=hb2.size;have hz3:=hg.size
 have hob':∀k,ev'.ownBlock=some k→own k=tg i 4∨w.heap.size≤k:=by
  intro k hk;rcases hob with e|⟨k2,e,h2⟩
  ·rw[e]at hk;exact .inl (h.owne k hk)
  ·rw[e]at hk;simp at hk;omega
 have hK2:Xb (fun k=>some k=ev.ownBlock) w w3:=(Xb.of hb2).trans (Xb.grown hg);have hro:∀k,some k=ev.ownBlock→own k=tg i 4:=fun k hk=>h.owne k hk.symm
 have hold:∀k,k<w.heap.size→XZ own w.heap.size w3.heap.size (tg i 4) k=own k:=fun k hk=>XR hk
 have hbr:¬some b=ev.ownBlock:=fun e=>by have:=hro b e;rw[h.ownb]at this;exact Xz (by omega) (by omega) (.inr (by omega)) this
 have hlt:=h.lt;have hhead3:w3.heap[b]?=some (.cells (Zn c s cl q cm o ev) 137 (0,0)):=by rw[hK2.block b hlt hbr];exact h.head
 have hKb:Xb (· =b) w3 (w3.setCell ⟨b,20,none⟩ ev'):=(Xb.refl _ w3).setB _ _;have hK:Xb (fun k=>some k=ev.ownBlock∨k=b) w (w3.setCell ⟨b,20,none⟩ ev'):=(hK2.mono (fun _ h=>.inl h)).trans (hKb.mono (fun _ h=>.inr h))
 have hne:∀p,p<5→p≠0→p≠4→∀k,(some k=ev.ownBlock∨k=b)→own k≠tg i p:=by
  intro p hp h0 h3 k hk;rcases hk with hk|hk
  ·rw[hro k hk];exact Xz (by omega) hp (.inr (by omega))
  ·rw[hk,h.ownb];exact Xz (by omega) hp (.inr (by omega))
 refine⟨⟨?_,(hold b hlt).trans h.ownb,h.lq.keeps hK (hne 1 (by omega) (by omega) (by omega)) hold,h.lcm.keeps hK (hne 2 (by omega) (by omega) (by omega)) hold,h.lo.keeps hK (hne 3 (by omega) (by omega) (by omega)) hold,?_,?_,(hold 0 h.pos).trans h.XC,fun k hk=>ZI (by omega) (by rw[size_setCell]at hk;exact hk),h.cok,h.sok.events _⟩,⟨?_,hold⟩⟩
 ·exact Xm hhead3 ev'
 ·have e1:(s.events++[n]).length=s.events.length+1:=by simp
  have e2:((s.events++[n]).map fun n=>Value.int .i64 (n:Nat))=(s.events.map fun n=>.int .i64 (n:Nat))++[.int .i64 (n:Nat)]:=by simp
  show World.ownsRow _ _ _ _ _ (s.events++[n]).length ((s.events++[n]).map _)
  rw[e1,e2];refine Xc hrow hKb (fun k hk e=> ?_);rcases hob' k hk with h1|h1
  ·rw[e,h.ownb]at h1;exact Xz (by omega) (by omega) (.inr (by omega)) h1
  ·omega
 ·intro k hk;rcases hob with e|⟨k2,e,h2⟩
  ·rw[e]at hk;have:=World.ownsRow.lt h.lev k hk;rw[XR this.2];exact h.owne k hk
  ·rw[e]at hk;simp at hk;have h4:=(World.ownsRow.lt hrow k2 e).2;exact YJ (by omega) (by omega)
 ·exact hK.mono (fun k hk=>by rcases hk with hk|hk;exact⟨4,by omega,hro k hk⟩;exact⟨0,by omega,by rw[hk];exact h.ownb⟩)
theorem Xcj (h:TAt w own i b c s cl q cm o ev ce oe)(n:Nat)(hl:s.events.length≤2199023255552):
  Calls Tryz.prog 136 #[.pointer (some ⟨b,0,none⟩),.int .i64 n] w fun e w'=>XA i b c (tell n s) cl own w e w':=by
 obtain⟨i1,hi1,hy0,hy1,hy2⟩:=info_parts XgE;obtain⟨op,ocap,hoe⟩:=Yk h.lev;subst hoe;have c20:=h.cell 20 rfl;have fz:=h.fz;have hlt:=h.lt;have HO:=hide (World.ownsRow.alloc h.lev (.cells #[.int .i64 (n:Nat)] 3));have HM1:Hid (s.events.length+1≤maxLen):=hide (by unfold maxLen;omega);have HM2:Hid ((s.events.length+1)*8≤140737488355328):=hide (by omega);have H:=hide h;clear h;go_enter Tryz.func136,Tryz.ntmps136
 go_wp2_with (at_builtin;refine wpList_append_own_at _ rfl _ _ 62 rfl 0 3 i1 _ 1 8 Tryz.underlying62 hi1 hy0 hy1 hy2 rfl (by decide) _ _ _ rfl (Xa HO) ⟨w.heap.size,0,none⟩ 1 1 [.int .i64 (n:Nat)] rfl rfl (cell_one_new _ _ _) (XiL _ _) (Xa HM1) (Xa HM2) (Nat.zero_le _) ?_)
 intro o' w3 hrow hg _ hob;obtain⟨p',cap',hoe'⟩:=Yk hrow;subst hoe';have h1:=Xa H;have hh:=h1.JH (Below.refl _ w) hg (fun k hk e=>Xz (i:=i) (j:=i) (p:=4) (q:=0) (by omega) (by omega) (.inr (by omega)) ((h1.owne k hk).symm.trans e));have hS:=h1.told ((Below.refl _ w).alloc (Nat.le_refl _) _) hg hrow (by rcases hob with e|e;exact .inl e;exact .inr ⟨_,e,by simp⟩);have HS:=hide hS;have fz3:∀j,w3.frozen? ⟨b,j,none⟩=false:=fun j=>Lib.frozen_of_heap hh j
 have c3:w3.cell? ⟨b,20,none⟩=some (.slice op s.events.length ocap):=by rw[Lib.cell_of_heap hh];rfl
 clear hS hob hrow hg hh h1 fz c20 HO H;go_wp2
 go_end0
 exact⟨rfl,_,⟨_,_,_,_,_,_,(Xa HS).1⟩,(Xa HS).2⟩
theorem Zx (h:TAt w own i b c s cl q cm o ev ce oe):
  Calls Tryz.prog 91 #[.pointer (some ⟨b,0,none⟩)] w fun e w'=>e=.returned (.bool (XO c s))∧∃k,w'=w.drewN k:=by
 obtain⟨p,cap,rfl,hc1,hc2⟩:=h.lcm.slice;have c16:=h.c16;have c18:w.cell? ⟨b,18,none⟩=some (.slice p s.came.length cap):=h.cell 18 rfl;have c4:=h.c4;have hr:=h.sok.came;have hr2:=h.cok.room16;have hf:XO c s=(s.busy||decide (c.room≤s.came.length)):=rfl;have HF:=hide hf;clear hf;clear h;unfold maxLen at hc2;generalize s.came.length=n at*;cases hb:s.busy with
 |true=>
  rw[hb]at c16 HF;go_enter Tryz.func91,Tryz.ntmps91
  go_wp2
  first|(go_ret;exact⟨Xr (Xa HF).symm,0,rfl⟩)|(go_quiet (fail);go_wp2;go_ret;exact⟨Xr (Xa HF).symm,_,rfl⟩)
 |false=>
  rw[hb]at c16 HF;have HF2:Hid (XO c s=decide (c.room≤n)):=hide (by rw[Xa HF];simp);go_enter Tryz.func91,Tryz.ntmps91
  go_wp2
  first|(go_ret;exact⟨Xr (Xa HF2).symm,0,rfl⟩)|(go_quiet (fail);go_wp2;go_ret;exact⟨Xr (Xa HF2).symm,_,rfl⟩)
theorem XM (h:TAt w own i b c s cl q cm o ev ce oe)(a n:Nat)(ha:a<c.m)(hn:n<c.m):
  Calls Tryz.prog 133 #[.pointer (some ⟨b,0,none⟩),.int .i64 a,.int .i64 n] w fun e w'=>e=.returned (.int .i64 ((n+c.m-a)%c.m:Nat))∧∃k,w'=w.drewN k:=by
 have c0:=h.c0;have hm:=h.cok.m;have hm0:0<c.m:=h.cok.pos;have hm1:c.m≤128:=by omega
 have hz:((c.m:Int)==0)=false:=by simp;omega
 have hf:((n:Int)-a+c.m)%c.m=((n+c.m-a)%c.m:Nat):=by
  have e:(n:Int)-a+c.m=((n+c.m-a:Nat):Int):=by omega
  rw[e];rfl
 have HF:=hide hf;clear hf hm h;go_enter Tryz.func133,Tryz.ntmps133
 go_wp2
 first|(go_ret;exact⟨YI (Xa HF),0,rfl⟩)|(go_quiet (fail);go_wp2;go_ret;exact⟨YI (Xa HF),_,rfl⟩)
end
end Go.Proofs.YtkalonhalhdlaaaGreatDoor
