import Derived.Test.YtkalonhalhdlaaaGreatDoorG10
set_option maxHeartbeats 4000000
set_option maxRecDepth 100000
namespace Go.Proofs.YtkalonhalhdlaaaGreatDoor
open Go.RowKit
section
variable {w W:World}{own:Nat→Nat}{i b:Nat}{c:Cfg}{s:St}{cl:Bool}{ch:Nat}{q cm o ev:Value}{qe ce oe:List Value}
def freed (own:Nat→Nat)(t:Nat):Nat→Nat:=fun k=>if own k=t then 0 else own k
theorem Xy {own:Nat→Nat}{t k:Nat}(h:own k≠t):freed own t k=own k:=by simp[freed,h]
theorem JG {own:Nat→Nat}{t k:Nat}(h:own k=t):freed own t k=0:=by simp[freed,h]
theorem Lst.freed {w:World}{own:Nat→Nat}{t:Nat}{v:Value}{es:List Value}{l:List Msg}(h:Lst w own t v es l):Lst w (freed own t) 0 v es l:=
 ⟨h.row,fun k hk=>JG (h.rown k hk),fun j x m h1 h2=>⟨(h.each j x m h1 h2).1,fun k hk=>JG ((h.each j x m h1 h2).2 k hk)⟩,h.apart⟩
theorem Lst.Y0 {w:World}{own:Nat→Nat}{t t':Nat}{v:Value}{es:List Value}{l:List Msg}(h:Lst w own t v es l)(ht:t≠t'):Lst w (Proofs.YtkalonhalhdlaaaGreatDoor.freed own t') t v es l:=
 ⟨h.row,fun k hk=>(Xy (by rw[h.rown k hk];exact ht)).trans (h.rown k hk),fun j x m h1 h2=>⟨(h.each j x m h1 h2).1,fun k hk=>(Xy (by rw[(h.each j x m h1 h2).2 k hk];exact ht)).trans ((h.each j x m h1 h2).2 k hk)⟩,h.apart⟩
theorem Lst.XbK {w:World}{own:Nat→Nat}{t:Nat}{es:List Value}(t':Nat)(h:Lst w own t (.slice none 0 0) es []):Lst w (Proofs.YtkalonhalhdlaaaGreatDoor.freed own t') t (.slice none 0 0) es []:=by
 have:es=[]:=List.eq_nil_of_length_eq_zero h.len;subst this;exact Lst.nil _ _ _
theorem SAt.Xgl (h:SAt w own i b c s cl ch q (.slice none 0 0) o ev qe ce oe)(h2:s.came=[]):SAt w (freed own (tg i 2)) i b c s cl ch q (.slice none 0 0) o ev qe ce oe:=by
 have hn:∀p,p<5→p≠2→tg i p≠tg i 2:=fun p hp h=>Xz hp (by omega) (.inr h)
 refine⟨h.head,(Xy (by rw[h.ownb];exact hn 0 (by omega) (by omega))).trans h.ownb,h.chan,(Xy (by rw[h.ownc];exact hn 0 (by omega) (by omega))).trans h.ownc,h.lq.Y0 (hn 1 (by omega) (by omega)),?_,h.lo.Y0 (hn 3 (by omega) (by omega)),h.lev,fun k hk=>(Xy (by rw[h.owne k hk];exact hn 4 (by omega) (by omega))).trans (h.owne k hk),h.ctl,(Xy (by rw[h.XC];exact fun e=>Xq _ _ e.symm)).trans h.XC,fun k hk=>(Xy (by rw[h.Xp k hk];exact fun e=>Xq _ _ e.symm)).trans (h.Xp k hk),h.cok,h.sok⟩;have:=h.lcm;rw[h2]at this⊢;exact this.XbK _
theorem SAt.Xgm (h:SAt w own i b c s cl ch q cm (.slice none 0 0) ev qe ce oe)(h2:s.out=[]):SAt w (freed own (tg i 3)) i b c s cl ch q cm (.slice none 0 0) ev qe ce oe:=by
 have hn:∀p,p<5→p≠3→tg i p≠tg i 3:=fun p hp h=>Xz hp (by omega) (.inr h)
 refine⟨h.head,(Xy (by rw[h.ownb];exact hn 0 (by omega) (by omega))).trans h.ownb,h.chan,(Xy (by rw[h.ownc];exact hn 0 (by omega) (by omega))).trans h.ownc,h.lq.Y0 (hn 1 (by omega) (by omega)),h.lcm.Y0 (hn 2 (by omega) (by omega)),?_,h.lev,fun k hk=>(Xy (by rw[h.owne k hk];exact hn 4 (by omega) (by omega))).trans (h.owne k hk),h.ctl,(Xy (by rw[h.XC];exact fun e=>Xq _ _ e.symm)).trans h.XC,fun k hk=>(Xy (by rw[h.Xp k hk];exact fun e=>Xq _ _ e.symm)).trans (h.Xp k hk),h.cok,h.sok⟩;have:=h.lo;rw[h2]at this⊢;exact this.XbK _
theorem SAt.Xgn (h:SAt w own i b c s cl ch q cm o (.slice none 0 0) qe ce oe):SAt w (freed own (tg i 4)) i b c s cl ch q cm o (.slice none 0 0) qe ce oe:=by
 have hn:∀p,p<5→p≠4→tg i p≠tg i 4:=fun p hp h=>Xz hp (by omega) (.inr h)
 exact⟨h.head,(Xy (by rw[h.ownb];exact hn 0 (by omega) (by omega))).trans h.ownb,h.chan,(Xy (by rw[h.ownc];exact hn 0 (by omega) (by omega))).trans h.ownc,h.lq.Y0 (hn 1 (by omega) (by omega)),h.lcm.Y0 (hn 2 (by omega) (by omega)),h.lo.Y0 (hn 3 (by omega) (by omega)),h.lev,fun k hk=>by simp[Value.ownBlock]at hk,h.ctl,(Xy (by rw[h.XC];exact fun e=>Xq _ _ e.symm)).trans h.XC,fun k hk=>(Xy (by rw[h.Xp k hk];exact fun e=>Xq _ _ e.symm)).trans (h.Xp k hk),h.cok,h.sok⟩
structure Qb (i:Nat)(own own':Nat→Nat)(w w':World):Prop where
 keeps:Xb (fun k=>∃p,p<5∧own k=tg i p) w w'
 same:∀k,k<w.heap.size→own' k=own k∨((∃ p,p<5∧own k=tg i p)∧own' k=0)
theorem Upd.f {own':Nat→Nat}{w':World}(h:Upd i own own' w w'):Qb i own own' w w':=⟨h.keeps,fun k hk=>.inl (h.same k hk)⟩
theorem Qb.freed {own':Nat→Nat}{w':World}{p:Nat}(hp:p<5)(hK:Xb (· =b) w W)(hob:own b=tg i 0)(h:Upd i (Proofs.YtkalonhalhdlaaaGreatDoor.freed own (tg i p)) own' W w'):Qb i own own' w w':=by
 refine⟨⟨h.keeps.os.trans hK.os,h.keeps.tape.trans hK.tape,h.keeps.output.trans hK.output,Nat.le_trans hK.size h.keeps.size,fun k hk hx=> ?_⟩,fun k hk=> ?_⟩
 ·refine (h.keeps.block k (Nat.lt_of_lt_of_le hk hK.size) ?_).trans (hK.block k hk (fun e=>hx ⟨0,by omega,by rw[e];exact hob⟩));rintro⟨q,hq,e⟩;refine hx ⟨q,hq,?_⟩;rw[← e];refine(Xy (fun e2=> ?_)).symm;rw[JG e2]at e;exact Xq _ _ e.symm
 ·have h1:=h.same k (Nat.lt_of_lt_of_le hk hK.size);by_cases e:own k=tg i p
  ·exact .inr ⟨⟨p,hp,e⟩,h1.trans (JG e)⟩
  ·exact .inl (h1.trans (Xy e))
theorem Xmw (h:SAt w own i b c s cl ch q cm o ev qe ce oe)(on:Bool)(hl:s.out.length+18≤2199023255552):
  Calls Tryz.prog 57 #[.pointer (some ⟨b,0,none⟩),.bool on] w fun e w'=>Ans (if cl then 8 else 0) i b c (if cl then s else Qz c on s) cl own w e w':=by
 have hlt:=h.lt;have k1:=YE h;cases cl with
 |true=>
  have H:=hide h;clear h;go_enter Tryz.func57,Tryz.ntmps57
  go_wp2_with fail
  refine k1.mono ?_;rintro e w1 ⟨rfl,hw1⟩;subst hw1;clear k1;go_wp2
  go_ret
  exact(Xa H).ans 8 (Below.refl _ _)
 |false=>
  have c18:=h.Xf3;have fz:=h.fz;have k2:=QZ h;have H:=hide h;clear h;go_enter Tryz.func57,Tryz.ntmps57
  go_wp2_with fail
  refine k1.mono ?_;rintro e w1 ⟨rfl,hw1⟩;subst hw1;clear k1;go_wp2_with fail
  refine k2.mono ?_;rintro e w2 ⟨rfl,n2,rfl⟩;have h0:=(Xa H).drewN n2;have hK:Xb (· =b) (w1.drewN n2) _:=(Xb.refl _ (w1.drewN n2)).setB 18 (.bool on);have h2:=h0.wrote (s':={s with busy:=on}) hK (h0.hd.busy on) rfl rfl rfl rfl ⟨h0.sok.state,h0.sok.vs,h0.sok.va,h0.sok.vr,h0.sok.vm,h0.sok.q20,h0.sok.q32,h0.sok.timer,h0.sok.tries,h0.sok.came⟩;have K3:=hide (XaR h2 (XO c s) (by show s.out.length≤_;omega));have U:=hide (Upd.of (below_drewN (Below.refl _ w1) n2) (h0.upd hK));clear h0 h2 hK k2;go_wp2_with fail
  refine(Xa K3).mono ?_;rintro e w3 ⟨rfl,own3,h3,u3⟩;have HR:=hide (And.intro h3 ((Xa U).trans u3));clear h3 u3 K3 U;go_wp2
  go_ret
  exact⟨rfl,own3,(Xa HR).1,(Xa HR).2⟩
theorem XlT (h:SAt w own i b c s cl ch q cm o ev qe ce oe)(hl:s.out.length+18≤2199023255552):
  Calls Tryz.prog 42 #[.pointer (some ⟨b,0,none⟩)] w fun e w'=>if cl then e=.returned (.tuple #[.slice none 0 0,.int .i64 (8:Nat)])∧w'=w else e=.returned (.tuple #[cm,.int .i64 (0:Nat)])∧∃own',Stn w' own' i b c (ZL c s) cl∧Lst w' own' 0 cm ce s.came∧Qb i own own' w w':=by
 have hlt:=h.lt;have k1:=YE h;cases cl with
 |true=>
  have H:=hide h;clear h;go_enter Tryz.func42,Tryz.ntmps42
  go_wp2_with fail
  refine k1.mono ?_;rintro e w1 ⟨rfl,hw1⟩;subst hw1;clear k1;go_wp2
  go_ret2
  exact⟨rfl,rfl⟩
 |false=>
  have c19:=h.Xi2;have fz:=h.fz;have k2:=QZ h;obtain⟨op,ocap,rfl,_,_⟩:=h.lcm.slice;have H:=hide h;clear h;go_enter Tryz.func42,Tryz.ntmps42
  go_wp2_with fail
  refine k1.mono ?_;rintro e w1 ⟨rfl,hw1⟩;subst hw1;clear k1;go_wp2_with fail
  refine k2.mono ?_;rintro e w2 ⟨rfl,n2,rfl⟩;have h0:=(Xa H).drewN n2;have hK:Xb (· =b) (w1.drewN n2) _:=(Xb.refl _ (w1.drewN n2)).setB 19 (.slice none 0 0);have h2:=(h0.YL hK ((h0.hd.lcm _).as {s with came:=[]} rfl) XB.same XB.gone XB.same (.inl ⟨rfl,rfl⟩) ⟨h0.sok.state,h0.sok.vs,h0.sok.va,h0.sok.vr,h0.sok.vm,h0.sok.q20,h0.sok.q32,h0.sok.timer,h0.sok.tries,Nat.zero_le _⟩).Xgl rfl;have hL:=(h0.lcm.keeps hK (fun k hk=>by rw[hk,h0.ownb];exact Xz (by omega) (by omega) (.inr (by omega))) (fun _ _=>rfl)).freed;have hK0:Xb (· =b) w1 _:=((Xb.refl _ w1).drewN n2).setB 19 (.slice none 0 0);have K3:=hide (XaR h2 (XO c s) (by show s.out.length≤_;omega));have HL:=hide hL;have HK0:=hide hK0;clear h0 h2 hK k2 hL hK0;go_wp2_with fail
  refine(Xa K3).mono ?_;rintro e w3 ⟨rfl,own3,h3,u3⟩;have hL3:=(Xa HL).keeps (X:=_) (own':=own3) u3.keeps (fun k ⟨p,_,e⟩ e2=>by rw[e2]at e;exact Xq _ _ e.symm) u3.same;have HR:=hide (And.intro h3 (And.intro hL3 (Qb.freed (by omega) (Xa HK0) (Xa H).ownb u3)));clear h3 u3 K3 hL3 HL HK0;go_wp2
  go_ret2
  exact⟨rfl,own3,(Xa HR).1,(Xa HR).2.1,(Xa HR).2.2⟩
theorem XjW (h:SAt w own i b c s cl ch q cm o ev qe ce oe)(hl:s.out.length+18≤2199023255552)(hl2:s.events.length+2≤2199023255552):
  Calls Tryz.prog 101 #[.pointer (some ⟨b,0,none⟩)] w fun e w'=>Did i b c (Zd c s) cl own w e w':=by
 have hlt:=h.lt;have c14:=h.Xbp;have c3:=h.Xo7;have c7:=h.Qp;have c2:=h.Xi3;have c13:=h.J7;have c15:=h.Zz;have c10:=h.Xce;have fz:=h.fz;have hs4:=h.sok.state;have ht:=h.sok.tries;have ht10:=h.cok.tri10;by_cases htr:s.tries=c.tri
 ·have HD:Hid (Zd c s=Zi 4 s):=hide (by unfold Zd;rw[if_pos htr]);have t1:((s.tries:Int)==(c.tri:Int))=true:=by simp[htr]
  have K1:=hide (fun n=>JS (h.drewN n) 4 (by omega));clear h htr;go_enter Tryz.func101,Tryz.ntmps101
  go_wp2
  go_quiet (fail)
  go_wp2_with fail
  refine(Xa K1 _).mono ?_;rintro e w2 ⟨rfl,own2,h3,u3⟩;have HR:=hide (And.intro h3 (Upd.of (w:=w) (below_drewN (Below.refl _ w) _) u3));clear h3 u3 K1;go_wp2
  first|go_end0|refine bodyPost_ret (results_none rfl _ _ _) rfl ?_
  rw[Xa HD];exact⟨rfl,_,(Xa HR).1,(Xa HR).2⟩
 ·have t1:((s.tries:Int)==(c.tri:Int))=false:=by simp;omega
  have hdef:Zd c s=if s.state=1 then Za c ⟨0,5,true,0,0,[]⟩ {s with tries:=s.tries+1,timer:=c.tim} else if s.state=3 then Za c ⟨0,6,true,0,0,[]⟩ {s with tries:=s.tries+1,timer:=c.tim} else if s.state=2 then Za c ⟨0,ready c s,true,0,s.vr,[]⟩ {s with tries:=s.tries+1,timer:=c.tim,Xh:=true} else {s with tries:=s.tries+1,timer:=c.tim}:=by unfold Zd;rw[if_neg htr]
  have hfit:St.fit c {s with tries:=s.tries+1,timer:=c.tim}:=⟨h.sok.state,h.sok.vs,h.sok.va,h.sok.vr,h.sok.vm,h.sok.q20,h.sok.q32,Nat.le_refl _,by show s.tries+1≤c.tri;omega,h.sok.came⟩;have h1:=fun n=>(h.drewN n).wrote (s':={s with tries:=s.tries+1,timer:=c.tim}) (((Xb.refl _ (w.drewN n)).setB 14 (.int .i64 (s.tries+1:Nat))).setB 13 (.int .i64 c.tim)) ((((h.drewN n).hd.tries (s.tries+1)).timer c.tim).as _ rfl) rfl rfl rfl rfl hfit
  have u1:=fun n=>Upd.of (below_drewN (Below.refl _ w) n) ((h.drewN n).upd (((Xb.refl _ (w.drewN n)).setB 14 (.int .i64 (s.tries+1:Nat))).setB 13 (.int .i64 c.tim)))
  have H1:=hide h1;have U1:=hide u1;have ehid:Hid (((s.tries+1:Nat):Int)=(s.tries:Int)+1):=hide (by omega);clear h h1 u1 htr hfit;have hst:s.state=0∨s.state=1∨s.state=2∨s.state=3∨s.state=4:=by omega
  rcases hst with e|e|e|e|e
  ·have HD:Hid (Zd c s={s with tries:=s.tries+1,timer:=c.tim}):=hide (by rw[hdef,if_neg (by omega),if_neg (by omega),if_neg (by omega)]);rw[e]at c7;clear e hdef;go_enter Tryz.func101,Tryz.ntmps101
   go_wp2
   go_quiet (fail)
   go_wp2
   first|go_end0|refine bodyPost_ret (results_none rfl _ _ _) rfl ?_
   rw[Xa HD];have h1:=Xa H1 nq;have u1:=Xa U1 nq;rw[Xa ehid]at h1 u1;exact⟨rfl,own,⟨_,_,_,_,_,_,_,_,h1⟩,u1⟩
  ·have HD:Hid (Zd c s=Za c ⟨0,5,true,0,0,[]⟩ {s with tries:=s.tries+1,timer:=c.tim}):=hide (by rw[hdef,if_pos e]);rw[e]at c7;clear e hdef;have k2:=fun n=>Qg (Xa H1 n) ⟨0,5,true,0,0,[]⟩ none 0 (Xae _) (by show s.out.length≤_;omega)
   simp only[JA,Xa ehid]at k2;have K2:=hide k2;have U2:=Xa U1;simp only[Xa ehid]at U2;have U3:=hide U2;clear k2 U2 H1;go_enter Tryz.func101,Tryz.ntmps101
   go_wp2
   go_quiet (fail)
   go_wp2_with fail
   refine(Xa K2 _).mono ?_;rintro e w2 ⟨rfl,own2,h3,u3⟩;have HR:=hide (And.intro h3 ((Xa U3 _).trans u3));clear h3 u3 K2;go_wp2
   first|go_end0|refine bodyPost_ret (results_none rfl _ _ _) rfl ?_
   rw[Xa HD];exact⟨rfl,_,(Xa HR).1,(Xa HR).2⟩
  ·have HD:Hid (Zd c s=Za c ⟨0,ready c s,true,0,s.vr,[]⟩ {s with tries:=s.tries+1,timer:=c.tim,Xh:=true}):=hide (by rw[hdef,if_neg (by omega),if_neg (by omega),if_pos e]);rw[e]at c7;clear e hdef;have h2:=fun n=>(Xa H1 n).wrote (s':={s with tries:=s.tries+1,timer:=c.tim,Xh:=true}) ((Xb.refl _ _).setB 15 (.bool true)) ((Xa H1 n).hd.Xh true) rfl rfl rfl rfl ⟨(Xa H1 n).sok.state,(Xa H1 n).sok.vs,(Xa H1 n).sok.va,(Xa H1 n).sok.vr,(Xa H1 n).sok.vm,(Xa H1 n).sok.q20,(Xa H1 n).sok.q32,(Xa H1 n).sok.timer,(Xa H1 n).sok.tries,(Xa H1 n).sok.came⟩
   have u2:=fun n=>(Xa U1 n).trans ((Xa H1 n).upd ((Xb.refl _ _).setB 15 (.bool true)))
   have k1:=fun n V hV=>Xb4 ((h2 n).later (w':=V) hV)
   have k2:=fun n V hV=>Qg ((h2 n).later (w':=V) hV) ⟨0,ready c s,true,0,s.vr,[]⟩ none 0 (Xae _) (by show s.out.length≤_;omega)
   simp only[JA]at k2;have e2:=Xa ehid;simp only[e2]at k1 k2 u2;have K1:=hide k1;have K2:=hide k2;have U3:=hide u2;have e3:ready c {s with tries:=s.tries+1,timer:=c.tim,Xh:=true}=ready c s:=rfl;clear k1 k2 h2 u2 H1 U1 e2;go_enter Tryz.func101,Tryz.ntmps101
   go_wp2
   go_quiet (fail)
   go_wp2_with fail
   have K1':=hide (Xa K1 nq);have K2':=hide (Xa K2 nq);have U3':=hide (Xa U3 nq);have d10:((((w.drewN nq).setCell ⟨b,14,none⟩ (.int .i64 ((s.tries:Int)+1))).setCell ⟨b,13,none⟩ (.int .i64 c.tim)).setCell ⟨b,15,none⟩ (.bool true)).cell? ⟨b,10,none⟩=some (.int .i64 s.vr):=by simp[go_sem,c10]
   clear K1 K2 U3 c14 c3 c7 c2 c13 c15 c10 fz;generalize ((((w.drewN nq).setCell ⟨b,14,none⟩ (.int .i64 ((s.tries:Int)+1))).setCell ⟨b,13,none⟩ (.int .i64 c.tim)).setCell ⟨b,15,none⟩ (.bool true))=V5 at*;go_region_with (first|(go_at_call 135;refine(Xa K1' _ ?_).mono ?_;(first|exact Below.refl _ _|exact(Below.refl _ V5).drew);rintro e w1 ⟨rfl,k,rfl⟩)|(go_at_call 129;refine(Xa K2' _ ?_).mono ?_;(first|exact Below.refl _ _|exact(Below.refl _ V5).drew|exact below_drewN (Below.refl _ V5) _);rintro e w2 ⟨rfl,own2,h3,u3⟩))
   all_goals
    have HR:=hide (And.intro h3 ((Xa U3').trans (Upd.of (w:=V5) (by first|exact Below.refl _ _|exact(Below.refl _ V5).drew|exact below_drewN (Below.refl _ V5) _) u3)));clear h3 u3 K1' K2';go_wp2
    first|go_end0|refine bodyPost_ret (results_none rfl _ _ _) rfl ?_
    rw[Xa HD];exact⟨rfl,_,(Xa HR).1,(Xa HR).2⟩
  ·have HD:Hid (Zd c s=Za c ⟨0,6,true,0,0,[]⟩ {s with tries:=s.tries+1,timer:=c.tim}):=hide (by rw[hdef,if_neg (by omega),if_pos e]);rw[e]at c7;clear e hdef;have k2:=fun n=>Qg (Xa H1 n) ⟨0,6,true,0,0,[]⟩ none 0 (Xae _) (by show s.out.length≤_;omega)
   simp only[JA,Xa ehid]at k2;have K2:=hide k2;have U2:=Xa U1;simp only[Xa ehid]at U2;have U3:=hide U2;clear k2 U2 H1;go_enter Tryz.func101,Tryz.ntmps101
   go_wp2
   go_quiet (fail)
   go_wp2_with fail
   refine(Xa K2 _).mono ?_;rintro e w2 ⟨rfl,own2,h3,u3⟩;have HR:=hide (And.intro h3 ((Xa U3 _).trans u3));clear h3 u3 K2;go_wp2
   first|go_end0|refine bodyPost_ret (results_none rfl _ _ _) rfl ?_
   rw[Xa HD];exact⟨rfl,_,(Xa HR).1,(Xa HR).2⟩
  ·have HD:Hid (Zd c s={s with tries:=s.tries+1,timer:=c.tim}):=hide (by rw[hdef,if_neg (by omega),if_neg (by omega),if_neg (by omega)]);rw[e]at c7;clear e hdef;go_enter Tryz.func101,Tryz.ntmps101
   go_wp2
   go_quiet (fail)
   go_wp2
   first|go_end0|refine bodyPost_ret (results_none rfl _ _ _) rfl ?_
   rw[Xa HD];have h1:=Xa H1 nq;have u1:=Xa U1 nq;rw[Xa ehid]at h1 u1;exact⟨rfl,own,⟨_,_,_,_,_,_,_,_,h1⟩,u1⟩
theorem Xnq (h:SAt w own i b c s cl ch q cm o ev qe ce oe)(hl:s.out.length+18≤2199023255552)(hl2:s.events.length+2≤2199023255552):
  Calls Tryz.prog 61 #[.pointer (some ⟨b,0,none⟩)] w fun e w'=>Ans (if cl then 8 else 0) i b c (if cl then s else Jd c s) cl own w e w':=by
 have hlt:=h.lt;have k1:=YE h;cases cl with
 |true=>
  have H:=hide h;clear h;go_enter Tryz.func61,Tryz.ntmps61
  go_wp2_with fail
  refine k1.mono ?_;rintro e w1 ⟨rfl,hw1⟩;subst hw1;clear k1;go_wp2
  go_ret
  exact(Xa H).ans 8 (Below.refl _ _)
 |false=>
  have c13:=h.J7;have fz:=h.fz;have htm:=h.sok.timer;have ht1:=h.cok.tim100;have hdef:Jd c s=if s.timer=0 then s else if s.timer=1 then Zd c {s with timer:=0} else {s with timer:=s.timer-1}:=rfl
  by_cases h0:s.timer=0
  ·have HD:=hide (hdef.trans (if_pos h0));rw[h0]at c13;have H:=hide h;clear h hdef h0;go_enter Tryz.func61,Tryz.ntmps61
   go_wp2_with fail
   refine k1.mono ?_;rintro e w1 ⟨rfl,hw1⟩;subst hw1;clear k1;go_wp2
   go_ret
   dsimp only
   rw[Xa HD];exact(Xa H).ans 0 (Below.refl _ _)
  ·have hd1:=hdef.trans (if_neg h0);have t0:((s.timer:Int)==0)=false:=by simp;omega
   by_cases h1:s.timer=1
   ·have HD:=hide (hd1.trans (if_pos h1));rw[h1]at c13;have h2:=h.wrote (s':={s with timer:=0}) ((Xb.refl _ w).setB 13 (.int .i64 (0:Nat))) (h.hd.timer 0) rfl rfl rfl rfl ⟨h.sok.state,h.sok.vs,h.sok.va,h.sok.vr,h.sok.vm,h.sok.q20,h.sok.q32,Nat.zero_le _,h.sok.tries,h.sok.came⟩;have K2:=hide (XjW h2 hl hl2);have U2:=hide (h.upd ((Xb.refl _ w).setB 13 (.int .i64 (0:Nat))));clear h h2 hdef hd1 h0 h1 t0;go_enter Tryz.func61,Tryz.ntmps61
    go_wp2_with fail
    refine k1.mono ?_;rintro e w1 ⟨rfl,hw1⟩;subst hw1;clear k1;go_wp2_with fail
    refine(Xa K2).mono ?_;rintro e w2 ⟨rfl,own2,h3,u3⟩;have HR:=hide (And.intro h3 ((Xa U2).trans u3));clear h3 u3 K2 U2;go_wp2
    go_ret
    dsimp only
    rw[Xa HD];exact⟨rfl,_,(Xa HR).1,(Xa HR).2⟩
   ·have HD:=hide (hd1.trans (if_neg h1));have t1:(((s.timer:Int)-1)==0)=false:=by simp;omega
    have h2:=h.wrote (s':={s with timer:=s.timer-1}) ((Xb.refl _ w).setB 13 (.int .i64 (s.timer-1:Nat))) (h.hd.timer _) rfl rfl rfl rfl ⟨h.sok.state,h.sok.vs,h.sok.va,h.sok.vr,h.sok.vm,h.sok.q20,h.sok.q32,by show s.timer-1≤c.tim;omega,h.sok.tries,h.sok.came⟩;have u2:=h.upd ((Xb.refl _ w).setB 13 (.int .i64 (s.timer-1:Nat)));rw[show((s.timer-1:Nat):Int)=(s.timer:Int)-1 by omega]at h2 u2;have HR:=hide (And.intro h2 u2);clear h h2 u2 hdef hd1;go_enter Tryz.func61,Tryz.ntmps61
    go_wp2_with fail
    refine k1.mono ?_;rintro e w1 ⟨rfl,hw1⟩;subst hw1;clear k1;go_wp2
    go_ret
    dsimp only
    rw[Xa HD];exact⟨rfl,own,⟨_,_,_,_,_,_,_,_,(Xa HR).1⟩,(Xa HR).2⟩
end
end Go.Proofs.YtkalonhalhdlaaaGreatDoor
