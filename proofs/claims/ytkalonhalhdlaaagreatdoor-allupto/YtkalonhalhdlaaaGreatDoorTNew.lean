import Derived.Test.YtkalonhalhdlaaaGreatDoorG31
set_option maxHeartbeats 4000000
set_option maxRecDepth 100000
namespace Go.Proofs.YtkalonhalhdlaaaGreatDoor
open Go.Conc Go.RowKit
theorem Xpj (w:World):(zeroValue 137).run Tryz.prog w=.ok (.agg #[.int .i64 0,.int .i64 0,.int .i64 0,.int .i64 0,.int .i64 0,.int .i64 0,.int .i64 0,.int .i64 0,.int .i64 0,.int .i64 0,.int .i64 0,.slice none 0 0,.int .i64 0,.int .i64 0,.bool false,.bool false,.bool false,.bool false,.slice none 0 0,.slice none 0 0,.slice none 0 0,.bool false]) w:=by kernel_rfl
theorem XlW (c:Cfg)(hc:c.ok)(i:Nat)(own:Nat→Nat)(w w1:World)(h0:own 0=0)(hs:0<w.heap.size)(hb:Below w.heap.size w w1):
  Below w.heap.size w (w1.alloc (.cells (Zn c St.fresh false (.slice none 0 0) (.slice none 0 0) (.slice none 0 0) (.slice none 0 0)) 137))∧
  Ttn (w1.alloc (.cells (Zn c St.fresh false (.slice none 0 0) (.slice none 0 0) (.slice none 0 0) (.slice none 0 0)) 137)) (XZ own w.heap.size (w1.alloc (.cells (Zn c St.fresh false (.slice none 0 0) (.slice none 0 0) (.slice none 0 0) (.slice none 0 0)) 137)).heap.size (tg i 0)) i w1.heap.size c St.fresh false:=by
 have hz:=hb.size;have hsz:=Xk w1 (.cells (Zn c St.fresh false (.slice none 0 0) (.slice none 0 0) (.slice none 0 0) (.slice none 0 0)) 137);have hbl:=hb.alloc hz (.cells (Zn c St.fresh false (.slice none 0 0) (.slice none 0 0) (.slice none 0 0) (.slice none 0 0)) 137);refine⟨hbl,_,_,_,_,[],[],Xg w1 _,?_,YZ.nil _ _ _,Lst.nil _ _ _,Lst.nil _ _ _,World.ownsRow_nil _ _ _ _,fun k hk=>by simp[Value.ownBlock]at hk,?_,?_,hc,(Xbn hc).fit⟩
 ·rw[hsz];exact YJ (by omega) (by omega)
 ·rw[XR hs];exact h0
 ·intro k hk;rw[hsz]at hk⊢;exact ZI (by omega) hk
theorem Xnr (c:Cfg)(hc:c.ok)(i:Nat)(own:Nat→Nat)(w:World)(h0:own 0=0)(hs:0<w.heap.size):
  Calls Tryz.prog 39 #[.agg #[.int .i64 c.m,.int .i64 c.win,.int .i64 c.tim,.int .i64 c.tri,.int .i64 c.room,.int .i64 c.addr]] w fun e w'=>∃b,e=.returned (.tuple #[.pointer (some ⟨b,0,none⟩),.int .i64 (0:Nat)])∧w.heap.size≤b∧Below w.heap.size w w'∧Ttn w' (XZ own w.heap.size w'.heap.size (tg i 0)) i b c St.fresh false:=by
 have hf:=fun(x:Obj)=>XlW c hc i own w (w.alloc x) h0 hs ((Below.refl w.heap.size w).alloc (Nat.le_refl _) x)
 simp only[fun x:Obj=>Xk w x]at hf;have HF:=hide hf;clear hf;have hm:=hc.m;have ha:=hc.addr;have f1:¬(c.win:Int)<1:=by have:=hc.win1;omega
 have f2:¬(15:Int)<(c.win:Int):=by have:=hc.win15;omega
 have f3:¬(c.m:Int)≤(c.win:Int):=by have:=hc.winm;omega
 have f4:¬(c.tim:Int)<1:=by have:=hc.tim1;omega
 have f5:¬(100:Int)<(c.tim:Int):=by have:=hc.tim100;omega
 have f6:¬(c.tri:Int)<1:=by have:=hc.tri1;omega
 have f7:¬(10:Int)<(c.tri:Int):=by have:=hc.tri10;omega
 have f8:¬(c.room:Int)<1:=by have:=hc.room1;omega
 have f9:¬(16:Int)<(c.room:Int):=by have:=hc.room16;omega
 have tz:=Xpj;unfold Zn at HF;obtain⟨m,win,tim,tri,room,addr⟩:=c;simp only at hm ha f1 f2 f3 f4 f5 f6 f7 f8 f9 HF⊢;clear hc h0;rcases hm with rfl|rfl
 all_goals
  rcases ha with rfl|rfl
  all_goals
   go_enter Tryz.func39,Tryz.ntmps39
   go_wp2
   go_ret2
   exact⟨w.heap.size+1,rfl,by omega,(Xa HF _).1,(Xa HF _).2⟩
theorem Xoy (m win tim tri room addr:Int)(w:World)(hb:Qi m win tim tri room addr=false):
  Calls Tryz.prog 39 #[.agg #[.int .i64 m,.int .i64 win,.int .i64 tim,.int .i64 tri,.int .i64 room,.int .i64 addr]] w fun e w'=>e=.returned (.tuple #[.pointer none,.int .i64 (1:Nat)])∧Below w.heap.size w w':=by
 have HB:=hide fun(x:Obj)=>(Below.refl w.heap.size w).alloc (Nat.le_refl _) x
 by_cases hm:m=8∨m=128
 ·have hcs:win<1∨15<win∨m≤win∨tim<1∨100<tim∨tri<1∨10<tri∨room<1∨16<room∨(addr≠1∧addr≠3):=by
   by_cases hall:win<1∨15<win∨m≤win∨tim<1∨100<tim∨tri<1∨10<tri∨room<1∨16<room∨(addr≠1∧addr≠3)
   ·exact hall
   ·exfalso
    have e1:XP m=true:=by simp[XP];omega
    have e2:XL addr=true:=by simp[XL];omega
    have:Qi m win tim tri room addr=true:=by
     simp[Qi,QA,e1,e2];omega
    rw[this]at hb;cases hb
  clear hb;rcases hm with rfl|rfl
  ·by_cases p1:win<1
   ·clear hcs;go_enter Tryz.func39,Tryz.ntmps39
    go_wp2
    go_ret2
    exact⟨rfl,Xa HB _⟩
   ·skip
    by_cases p2:15<win
    ·clear hcs;go_enter Tryz.func39,Tryz.ntmps39
     go_wp2
     go_ret2
     exact⟨rfl,Xa HB _⟩
    ·skip
     by_cases p3:(8:Int)≤win
     ·clear hcs
      first
      |(exfalso;omega)
      |skip
       go_enter Tryz.func39,Tryz.ntmps39
       go_wp2
       go_ret2
       exact⟨rfl,Xa HB _⟩
     ·skip
      by_cases p4:tim<1
      ·clear hcs;go_enter Tryz.func39,Tryz.ntmps39
       go_wp2
       go_ret2
       exact⟨rfl,Xa HB _⟩
      ·skip
       by_cases p5:100<tim
       ·clear hcs;go_enter Tryz.func39,Tryz.ntmps39
        go_wp2
        go_ret2
        exact⟨rfl,Xa HB _⟩
       ·skip
        by_cases p6:tri<1
        ·clear hcs;go_enter Tryz.func39,Tryz.ntmps39
         go_wp2
         go_ret2
         exact⟨rfl,Xa HB _⟩
        ·skip
         by_cases p7:10<tri
         ·clear hcs;go_enter Tryz.func39,Tryz.ntmps39
          go_wp2
          go_ret2
          exact⟨rfl,Xa HB _⟩
         ·skip
          by_cases p8:room<1
          ·clear hcs;go_enter Tryz.func39,Tryz.ntmps39
           go_wp2
           go_ret2
           exact⟨rfl,Xa HB _⟩
          ·skip
           by_cases p9:16<room
           ·clear hcs;go_enter Tryz.func39,Tryz.ntmps39
            go_wp2
            go_ret2
            exact⟨rfl,Xa HB _⟩
           ·skip
            have pa1:(addr != 1)=true:=by simp;omega
            have pa3:(addr != 3)=true:=by simp;omega
            clear hcs;go_enter Tryz.func39,Tryz.ntmps39
            go_wp2
            go_ret2
            exact⟨rfl,Xa HB _⟩
  ·by_cases p1:win<1
   ·clear hcs;go_enter Tryz.func39,Tryz.ntmps39
    go_wp2
    go_ret2
    exact⟨rfl,Xa HB _⟩
   ·skip
    by_cases p2:15<win
    ·clear hcs;go_enter Tryz.func39,Tryz.ntmps39
     go_wp2
     go_ret2
     exact⟨rfl,Xa HB _⟩
    ·skip
     by_cases p3:(128:Int)≤win
     ·clear hcs
      first
      |(exfalso;omega)
      |skip
       go_enter Tryz.func39,Tryz.ntmps39
       go_wp2
       go_ret2
       exact⟨rfl,Xa HB _⟩
     ·skip
      by_cases p4:tim<1
      ·clear hcs;go_enter Tryz.func39,Tryz.ntmps39
       go_wp2
       go_ret2
       exact⟨rfl,Xa HB _⟩
      ·skip
       by_cases p5:100<tim
       ·clear hcs;go_enter Tryz.func39,Tryz.ntmps39
        go_wp2
        go_ret2
        exact⟨rfl,Xa HB _⟩
       ·skip
        by_cases p6:tri<1
        ·clear hcs;go_enter Tryz.func39,Tryz.ntmps39
         go_wp2
         go_ret2
         exact⟨rfl,Xa HB _⟩
        ·skip
         by_cases p7:10<tri
         ·clear hcs;go_enter Tryz.func39,Tryz.ntmps39
          go_wp2
          go_ret2
          exact⟨rfl,Xa HB _⟩
         ·skip
          by_cases p8:room<1
          ·clear hcs;go_enter Tryz.func39,Tryz.ntmps39
           go_wp2
           go_ret2
           exact⟨rfl,Xa HB _⟩
          ·skip
           by_cases p9:16<room
           ·clear hcs;go_enter Tryz.func39,Tryz.ntmps39
            go_wp2
            go_ret2
            exact⟨rfl,Xa HB _⟩
           ·skip
            have pa1:(addr != 1)=true:=by simp;omega
            have pa3:(addr != 3)=true:=by simp;omega
            clear hcs;go_enter Tryz.func39,Tryz.ntmps39
            go_wp2
            go_ret2
            exact⟨rfl,Xa HB _⟩
 ·have q1:(m != 8)=true:=by simp;omega
  have q2:(m != 128)=true:=by simp;omega
  clear hb hm;go_enter Tryz.func39,Tryz.ntmps39
  go_wp2
  go_ret2
  exact⟨rfl,Xa HB _⟩
end Go.Proofs.YtkalonhalhdlaaaGreatDoor
