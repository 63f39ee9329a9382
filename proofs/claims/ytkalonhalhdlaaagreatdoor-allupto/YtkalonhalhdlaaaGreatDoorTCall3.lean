import Derived.Test.YtkalonhalhdlaaaGreatDoorTHear2
import Derived.Test.YtkalonhalhdlaaaGreatDoorSCall5
set_option maxHeartbeats 8000000
set_option maxRecDepth 100000
namespace Go.Proofs.YtkalonhalhdlaaaGreatDoor
open Go.RowKit
section
variable {w W:World}{own:Nat→Nat}{i b:Nat}{c:Cfg}{s:St}{cl:Bool}{q cm o ev:Value}{ce oe:List Value}
theorem YZ.slice {t:Nat}{v:Value}{l:List Msg}(h:YZ w own t v l):∃p cap,v=.slice p l.length cap:=by
 obtain⟨p,cap,e,_⟩:=h;exact⟨p,cap,e⟩
theorem YZ.Y0 {t t':Nat}{v:Value}{l:List Msg}(h:YZ w own t v l)(ht:t≠t'):YZ w (Proofs.YtkalonhalhdlaaaGreatDoor.freed own t') t v l:=
 h.Xcp (X:=fun _=>False) (Xb.refl _ _) (fun _ hx=>absurd hx id) (fun k _ e=>(Xy (by rw[e];exact ht)).trans e)
theorem TAt.Xgl (h:TAt w own i b c s cl q (.slice none 0 0) o ev ce oe)(h2:s.came=[]):TAt w (freed own (tg i 2)) i b c s cl q (.slice none 0 0) o ev ce oe:=by
 have hn:∀p,p<5→p≠2→tg i p≠tg i 2:=fun p hp h=>Xz hp (by omega) (.inr h)
 refine⟨h.head,(Xy (by rw[h.ownb];exact hn 0 (by omega) (by omega))).trans h.ownb,h.lq.Y0 (hn 1 (by omega) (by omega)),?_,h.lo.Y0 (hn 3 (by omega) (by omega)),h.lev,fun k hk=>(Xy (by rw[h.owne k hk];exact hn 4 (by omega) (by omega))).trans (h.owne k hk),(Xy (by rw[h.XC];exact fun e=>Xq _ _ e.symm)).trans h.XC,fun k hk=>(Xy (by rw[h.Xp k hk];exact fun e=>Xq _ _ e.symm)).trans (h.Xp k hk),h.cok,h.sok⟩;have:=h.lcm;rw[h2]at this⊢;exact this.XbK _
theorem Xkd (h:TAt w own i b c s true q cm o ev ce oe):
  Calls Tryz.prog 47 #[.pointer (some ⟨b,0,none⟩)] w fun e w'=>e=.returned (.tuple #[Xeg,.int .i64 (8:Nat)])∧Below w.heap.size w w':=by
 have hlt:=h.lt;have c21:=h.c21;clear h;unfold Xeg;go_enter Tryz.func47,Tryz.ntmps47
 go_wp2
 refine bodyPost_ret (v:=.tuple #[.agg #[.int .i64 0,.int .i64 0,.int .i64 0,.int .i64 0,.int .i64 0,.int .i64 0,.bool false,.bool false,.bool false,.int .i64 0,.int .i64 0],.int .i64 8]) (by simp[results,Tryz.results47,go_sem]) rfl ⟨rfl,?_⟩;exact(Below.refl _ w).alloc (Nat.le_refl _) _
theorem Xkc (h:TAt w own i b c s false q cm o ev ce oe):
  Calls Tryz.prog 47 #[.pointer (some ⟨b,0,none⟩)] w fun e w'=>e=.returned (.tuple #[Xef s,.int .i64 (0:Nat)])∧Below w.heap.size w w':=by
 have hlt:=h.lt;have c21:=h.c21;have c6:=h.c6;have c7:=h.c7;have c8:=h.c8;have c9:=h.c9;have c11:=h.c11;have c12:=h.c12;have c13:=h.c13;have c14:=h.c14;have c15:=h.c15;have c16:=h.c16;have c18:=h.c18;obtain⟨qp,qcap,rfl⟩:=h.lq.slice;obtain⟨mp,mcap,rfl,_,_⟩:=h.lcm.slice;clear h;unfold Xef;generalize s.queue.length=nq at*;generalize s.came.length=nc at*;go_enter Tryz.func47,Tryz.ntmps47
 go_wp2_with fail
 have hne:¬b=w.heap.size:=by omega
 have hne2:¬w.heap.size=b:=by omega
 go_region_held3 (fun w'=>w'.cell? ⟨b,6,none⟩=some (.int .i64 s.state)∧w'.cell? ⟨b,7,none⟩=some (.int .i64 s.vs)∧w'.cell? ⟨b,8,none⟩=some (.int .i64 s.va)∧w'.cell? ⟨b,9,none⟩=some (.int .i64 s.vr)∧w'.cell? ⟨b,11,none⟩=some (.slice qp nq qcap)∧w'.cell? ⟨b,12,none⟩=some (.int .i64 s.timer)∧w'.cell? ⟨b,13,none⟩=some (.int .i64 s.tries)∧w'.cell? ⟨b,14,none⟩=some (.bool s.Xh)∧w'.cell? ⟨b,15,none⟩=some (.bool s.peer)∧w'.cell? ⟨b,16,none⟩=some (.bool s.busy)∧w'.cell? ⟨b,18,none⟩=some (.slice mp nc mcap)) (go_keep) (fail)
 go_wp2
 all_goals
  refine bodyPost_ret (v:=.tuple #[.agg #[.int .i64 s.state,.int .i64 s.vs,.int .i64 s.va,.int .i64 s.vr,.int .i64 s.timer,.int .i64 s.tries,.bool s.Xh,.bool s.peer,.bool s.busy,.int .i64 nq,.int .i64 nc],.int .i64 0]) (by simp[results,Tryz.results47,go_sem]) rfl ⟨rfl,?_⟩
  first|exact((Below.refl _ w).alloc (Nat.le_refl _) _).drew|exact(Below.refl _ w).alloc (Nat.le_refl _) _
theorem Xhw (h:TAt w own i b c s cl q cm o ev ce oe)(hl:s.out.length+18≤2199023255552):
  Calls Tryz.prog 43 #[.pointer (some ⟨b,0,none⟩)] w fun e w'=>if cl then e=.returned (.tuple #[.slice none 0 0,.int .i64 (8:Nat)])∧w'=w else e=.returned (.tuple #[cm,.int .i64 (0:Nat)])∧∃own',Ttn w' own' i b c (ZL c s) cl∧Lst w' own' 0 cm ce s.came∧Qb i own own' w w':=by
 have hlt:=h.lt;have c21:=h.c21;cases cl with
 |true=>
  clear h;go_enter Tryz.func43,Tryz.ntmps43
  go_wp2
  go_ret2
  exact⟨rfl,rfl⟩
 |false=>
  have hdef:ZL c s=if s.state=2∧XO c {s with came:=[]}≠XO c s then answer c false {s with came:=[]} else {s with came:=[]}:=rfl
  have himp:XO c {s with came:=[]}=true→XO c s=true:=by
   have hr1:=h.cok.room1;unfold XO;simp;intro hh;rcases hh with hh|hh
   ·exact .inl hh
   ·omega
  have k2:=Zx h;obtain⟨op,ocap,rfl,_,_⟩:=h.lcm.slice;have c18:∀N,(w.drewN N).cell? ⟨b,18,none⟩=some (.slice op s.came.length ocap):=fun N=>(h.drewN N).cell 18 rfl
  have fz:∀N j,(w.drewN N).frozen? ⟨b,j,none⟩=false:=fun N=>(h.drewN N).fz
  have H:=hide h;clear h;generalize ha2:XO c {s with came:=[]}=a2 at*;generalize XO c s=a1 at*;have HA2:=hide ha2;clear ha2;go_enter Tryz.func43,Tryz.ntmps43
  go_wp2_with fail
  refine k2.mono ?_;rintro e w2 ⟨rfl,n2,rfl⟩;have h0:=(Xa H).drewN n2;have hK:Xb (· =b) (w.drewN n2) ((w.drewN n2).setCell ⟨b,18,none⟩ (.slice none 0 0)):=(Xb.refl _ (w.drewN n2)).setB 18 (.slice none 0 0);have h2:=(h0.YL hK ((h0.hd.lcm _).as {s with came:=[]} rfl) h0.lq XB.gone XB.same (.inl ⟨rfl,rfl⟩) ⟨h0.sok.state,h0.sok.vs,h0.sok.va,h0.sok.vr,h0.sok.vm,h0.sok.q20,h0.sok.q32,h0.sok.timer,h0.sok.tries,Nat.zero_le _⟩).Xgl rfl;have hL:=(h0.lcm.keeps hK (fun k hk=>by rw[hk,h0.ownb];exact Xz (by omega) (by omega) (.inr (by omega))) (fun _ _=>rfl)).freed;have hK0:Xb (· =b) w ((w.drewN n2).setCell ⟨b,18,none⟩ (.slice none 0 0)):=((Xb.refl _ w).drewN n2).setB 18 (.slice none 0 0);have k3:=Zx h2;rw[Xa HA2]at k3;have K3:=hide k3;have H2:=hide h2;have HL:=hide hL;have HK0:=hide hK0;have d18:=c18 n2;have fz2:=fz n2;clear h0 h2 hK k2 hL hK0 k3 c18 fz HA2;go_wp2_with fail
  refine(Xa K3).mono ?_;rintro e w3 ⟨rfl,n3,rfl⟩;have h3:=(Xa H2).drewN n3;have hL3:Lst (((w.drewN n2).setCell ⟨b,18,none⟩ (.slice none 0 0)).drewN n3) (freed own (tg i 2)) 0 (.slice op s.came.length ocap) ce s.came:=(Xa HL).keeps (X:=fun _=>False) ((Xb.refl _ _).drewN n3) (fun _ hx=>absurd hx id) (fun _ _=>rfl);have hK3:Xb (· =b) w (((w.drewN n2).setCell ⟨b,18,none⟩ (.slice none 0 0)).drewN n3):=(Xa HK0).drewN n3;clear K3 H2 HL HK0 d18 fz2;generalize ((w.drewN n2).setCell ⟨b,18,none⟩ (.slice none 0 0)).drewN n3=V at*;have c6:=h3.c6;have hltV:=h3.lt;have hob:=(Xa H).ownb;have K4:=hide (ZP h3 false false (by show s.out.length≤_;omega));have H3:=hide (And.intro h3 (And.intro hL3 hK3));have HD:=hide hdef;have HOB:=hide hob;clear h3 hL3 hK3 hdef hob H
  have HZ:Hid (∃ own',Ttn V own' i b c {s with came:=[]} false∧Lst V own' 0 (.slice op s.came.length ocap) ce s.came∧Qb i own own' w V):=
   ⟨_,⟨_,_,_,_,_,_,(Xa H3).1⟩,(Xa H3).2.1,Qb.freed (p:=2) (by omega) (Xa H3).2.2 (Xa HOB) (Upd.refl _ _ _)⟩
  by_cases hst:s.state=2
  ·rw[hst]at c6;by_cases hne:a2=a1
   ·have HP:Hid (ZL c s={s with came:=[]}):=hide ((Xa HD).trans (if_neg (fun hh=>hh.2 hne)));subst hne;clear K4 HD hst himp;cases a2
    all_goals
     go_wp2
     go_ret2
     rw[Xa HP];exact⟨rfl,Xa HZ⟩
   ·have HP:Hid (ZL c s=answer c false {s with came:=[]}):=hide ((Xa HD).trans (if_pos ⟨hst,hne⟩));have hx:a1=true∧a2=false:=by cases a1 <;> cases a2 <;> simp at hne himp⊢
    obtain⟨rfl,rfl⟩:=hx;clear HD hst hne himp HZ;go_wp2_with fail
    refine(Xa K4).mono ?_;rintro e w5 ⟨rfl,own5,o5,oe5,h5,u5⟩;have hL5:=(Xa H3).2.1.keeps (X:=_) (own':=own5) u5.keeps (fun k ⟨p,_,e⟩ e2=>by rw[e2]at e;exact Xq _ _ e.symm) u5.same;have HR5:=hide (And.intro h5 (And.intro hL5 (Qb.freed (p:=2) (by omega) (Xa H3).2.2 (Xa HOB) u5)));clear K4 h5 u5 c6 H3 hL5;go_wp2
    go_ret2
    rw[Xa HP];exact⟨rfl,_,⟨_,_,_,_,_,_,(Xa HR5).1⟩,(Xa HR5).2.1,(Xa HR5).2.2⟩
  ·have HP:Hid (ZL c s={s with came:=[]}):=hide ((Xa HD).trans (if_neg (fun hh=>hst hh.1)));have hsI:((s.state:Int)==2)=false:=by simp;omega
   clear K4 HD hst himp;go_wp2
   go_ret2
   rw[Xa HP];exact⟨rfl,Xa HZ⟩
end
end Go.Proofs.YtkalonhalhdlaaaGreatDoor
