import Derived.Test.YtkalonhalhdlaaaGreatDoorTUp3
import Derived.Test.YtkalonhalhdlaaaGreatDoorG22
set_option maxHeartbeats 4000000
set_option maxRecDepth 100000
namespace Go.Proofs.YtkalonhalhdlaaaGreatDoor
open Go.RowKit
section
variable {w:World}{own:Nat→Nat}{i b:Nat}{c:Cfg}{s:St}{cl:Bool}{q cm o ev:Value}{ce oe:List Value}
theorem Xo1 (h:TAt w own i b c s cl q cm o ev ce oe)(hok:s.ok c)(h2:s.state=2)(fa fk:Int)(fp cmd:Bool)(fns:Int)(n:Nat)(hn:n<c.m)(info:Msg)(hcmd:X8 c (⟨fa,fk,fp,fns,(n:Nat),info⟩:Fr)=cmd)(hk:fk=1∨fk=2∨fk=3∨fk=4)(fq:Option Addr)(fc:Nat)(hv:w.ownsRow 0 5 1 (.slice fq info.length fc) info.length (Lib.byteCells info))(hfree:∀k,(Value.slice fq info.length fc).ownBlock=some k→own k=0∧k≠0)(hl:s.out.length+32≤2199023255552)(hl2:s.events.length≤2199023255552):
  Calls Tryz.prog 126 #[.pointer (some ⟨b,0,none⟩),.agg #[.int .i64 fa,.int .i64 fk,.bool fp,.int .i64 fns,.int .i64 (n:Nat),.slice fq info.length fc],.bool cmd] w fun e w'=>Xag (Value.slice fq info.length fc).ownBlock i b c (YO c (⟨fa,fk,fp,fns,(n:Nat),info⟩:Fr) s) cl own w e w':=by
 have n5:(fk==5)=false:=by rcases hk with rfl|rfl|rfl|rfl <;> rfl
 have n6:(fk==6)=false:=by rcases hk with rfl|rfl|rfl|rfl <;> rfl
 have n7:(fk==7)=false:=by rcases hk with rfl|rfl|rfl|rfl <;> rfl
 have n8:(fk==8)=false:=by rcases hk with rfl|rfl|rfl|rfl <;> rfl
 have n9:(fk==9)=false:=by rcases hk with rfl|rfl|rfl|rfl <;> rfl
 have hdef:YO c (⟨fa,fk,fp,fns,(n:Nat),info⟩:Fr) s=if XI c s n=false then tell 2 (report c (X8 c (⟨fa,fk,fp,fns,(n:Nat),info⟩:Fr)&&fp) {over s with state:=4})else pump c (if fk=1 then Ym c (⟨fa,fk,fp,fns,(n:Nat),info⟩:Fr) (Xe c n s)else Xn c (⟨fa,fk,fp,fns,(n:Nat),info⟩:Fr) (Xe c n s)):=rfl
 rw[hdef];by_cases hg:XI c s n=false
 ·have hbad:ahead c s s.vm<ahead c s n:=by
   unfold XI at hg;have:=of_decide_eq_false hg;omega
  rw[if_pos hg,hcmd];cases cmd
  ·exact (XnB h fa fk fp fns n hn fq info.length fc n5 n6 n7 n8 n9 hbad (by omega) hl2).mono (fun e w' hq=>hq.t)
  ·exact (XnA h fa fk fp fns n hn fq info.length fc n5 n6 n7 n8 n9 hbad (by omega) hl2).mono (fun e w' hq=>hq.t)
 ·have hgood:ahead c s n≤ahead c s s.vm:=by
   have h1:=eq_true_of_ne_false hg;unfold XI at h1;exact of_decide_eq_true h1
  rw[if_neg hg];by_cases h1:fk=1
  ·subst h1;rw[if_pos rfl];by_cases hz:ahead c s n=0
   ·exact XnG h hok h2 fa fp cmd fns n hn info fq fc hgood (by omega) hz hv hfree hl
   ·by_cases hA:ahead c s s.vs<ahead c s n
    ·cases hp:s.Xh
     ·exact XnD h hok h2 fa fp cmd fns n hn info fq fc hgood hA (by omega) hp hv hfree hl
     ·exact XnC h hok h2 fa fp cmd fns n hn info fq fc hgood hA (by omega) hp hv hfree hl
    ·cases hp:s.Xh
     ·exact XnF h hok h2 fa fp cmd fns n hn info fq fc hgood hA (by omega) hp hv hfree hl
     ·exact XnE h hok h2 fa fp cmd fns n hn info fq fc hgood hA (by omega) hp hv hfree hl
  ·rw[if_neg h1];have n1:(fk==1)=false:=by simp[h1]
   have hk3:fk=2∨fk=3∨fk=4:=by omega
   by_cases hz:ahead c s n=0
   ·exact (XnL h hok h2 fa fk fp cmd fns n hn info fq fc n1 n5 n6 n7 n8 n9 hk3 hcmd hgood (by omega) hz hl).mono (fun e w' hq=>hq.t)
   ·by_cases hA:ahead c s s.vs<ahead c s n
    ·cases hp:s.Xh
     ·exact (XnI h hok h2 fa fk fp cmd fns n hn info fq fc n1 n5 n6 n7 n8 n9 hk3 hcmd hgood hA (by omega) hp hl).mono (fun e w' hq=>hq.t)
     ·exact (XnH h hok h2 fa fk fp cmd fns n hn info fq fc n1 n5 n6 n7 n8 n9 hk3 hcmd hgood hA (by omega) hp hl).mono (fun e w' hq=>hq.t)
    ·cases hp:s.Xh
     ·exact (XnK h hok h2 fa fk fp cmd fns n hn info fq fc n1 n5 n6 n7 n8 n9 hk3 hcmd hgood hA (by omega) hp hl).mono (fun e w' hq=>hq.t)
     ·exact (XnJ h hok h2 fa fk fp cmd fns n hn info fq fc n1 n5 n6 n7 n8 n9 hk3 hcmd hgood hA (by omega) hp hl).mono (fun e w' hq=>hq.t)
theorem Xo2 (h:TAt w own i b c s cl q cm o ev ce oe)(hok:s.ok c)(h2:s.state=2)(fa fk:Int)(fp cmd:Bool)(fns:Int)(n:Nat)(hn:n<c.m)(info:Msg)(hcmd:X8 c (⟨fa,fk,fp,fns,(n:Nat),info⟩:Fr)=cmd)(hk:1≤fk∧fk≤9)(fq:Option Addr)(fc:Nat)(hv:w.ownsRow 0 5 1 (.slice fq info.length fc) info.length (Lib.byteCells info))(hfree:∀k,(Value.slice fq info.length fc).ownBlock=some k→own k=0∧k≠0)(hl:s.out.length+32≤2199023255552)(hl2:s.events.length≤2199023255552):
  Calls Tryz.prog 126 #[.pointer (some ⟨b,0,none⟩),.agg #[.int .i64 fa,.int .i64 fk,.bool fp,.int .i64 fns,.int .i64 (n:Nat),.slice fq info.length fc],.bool cmd] w fun e w'=>Xag (Value.slice fq info.length fc).ownBlock i b c (Zu c (⟨fa,fk,fp,fns,(n:Nat),info⟩:Fr) s) cl own w e w':=by
 have hkc:(fk=1∨fk=2∨fk=3∨fk=4)∨fk=5∨fk=6∨fk=7∨fk=8∨fk=9:=by omega
 rcases hkc with hk4|rfl|rfl|rfl|rfl|rfl
 ·have e:Zu c (⟨fa,fk,fp,fns,(n:Nat),info⟩:Fr) s=YO c (⟨fa,fk,fp,fns,(n:Nat),info⟩:Fr) s:=by
   rcases hk4 with rfl|rfl|rfl|rfl <;> rfl
  rw[e];exact Xo1 h hok h2 fa fk fp cmd fns n hn info hcmd hk4 fq fc hv hfree hl hl2
 ·exact (XpC h fa fp cmd fns (n:Nat) fq info.length fc (by omega) hl2).mono (fun e w' hq=>hq.t)
 ·exact (XpD h fa fp cmd fns (n:Nat) fq info.length fc (by omega) hl2).mono (fun e w' hq=>hq.t)
 ·exact (XpE h fa fp cmd fns (n:Nat) fq info.length fc (by omega) hl2).mono (fun e w' hq=>hq.t)
 ·exact (XpF h fa fp cmd fns (n:Nat) fq info.length fc hl2).mono (fun e w' hq=>hq.t)
 ·exact (XpG h fa fp cmd fns (n:Nat) fq info.length fc (by omega) hl2).mono (fun e w' hq=>hq.t)
theorem XmC (h:TAt w own i b c s cl q cm o ev ce oe)(fa fk:Int)(fp cmd:Bool)(fns fnr:Int)(info:Msg)(hcmd:X8 c (⟨fa,fk,fp,fns,fnr,info⟩:Fr)=cmd)(hh:Zf c (⟨fa,fk,fp,fns,fnr,info⟩:Fr)=true)(hk:1≤fk∧fk≤9)(fq:Option Addr)(fc:Nat)(hl:s.out.length≤2199023255552)(hl2:s.events.length≤2199023255552):
  Calls Tryz.prog 122 #[.pointer (some ⟨b,0,none⟩),.agg #[.int .i64 fa,.int .i64 fk,.bool fp,.int .i64 fns,.int .i64 fnr,.slice fq info.length fc],.bool cmd] w fun e w'=>XA i b c (Zw c (⟨fa,fk,fp,fns,fnr,info⟩:Fr) s) cl own w e w':=by
 have hkc:fk=5∨fk=6∨(fk=1∨fk=2∨fk=3∨fk=4)∨fk=7∨fk=8∨fk=9:=by omega
 rcases hkc with rfl|rfl|hk4|hk4
 ·exact XoI h fa fp cmd fns fnr fq info.length fc hl hl2
 ·exact XoJ h fa fp cmd fns fnr fq info.length fc hl
 ·have n5:(fk==5)=false:=by rcases hk4 with rfl|rfl|rfl|rfl <;> rfl
  have n6:(fk==6)=false:=by rcases hk4 with rfl|rfl|rfl|rfl <;> rfl
  have e:Zw c (⟨fa,fk,fp,fns,fnr,info⟩:Fr) s=if X8 c (⟨fa,fk,fp,fns,fnr,info⟩:Fr)&&fp then Yj c 8 fp s else s:=by
   rcases hk4 with rfl|rfl|rfl|rfl <;> rfl
  rw[e,hcmd];cases cmd
  ·exact XiI h fa fk fp fns fnr fq info.length fc n5 n6
  ·cases fp
   ·exact Xn5 h fa fk fns fnr fq info.length fc n5 n6
   ·exact Xn4 h fa fk fns fnr fq info.length fc n5 n6 hl
 ·have n5:(fk==5)=false:=by rcases hk4 with rfl|rfl|rfl <;> rfl
  have n6:(fk==6)=false:=by rcases hk4 with rfl|rfl|rfl <;> rfl
  have e:Zw c (⟨fa,fk,fp,fns,fnr,info⟩:Fr) s=s:=by rcases hk4 with rfl|rfl|rfl <;> rfl
  have e2:Zf c (⟨fa,fk,fp,fns,fnr,info⟩:Fr)=!X8 c (⟨fa,fk,fp,fns,fnr,info⟩:Fr):=by rcases hk4 with rfl|rfl|rfl <;> rfl
  rw[e2,hcmd]at hh;have hc0:cmd=false:=by simpa using hh
  subst hc0;rw[e];exact XiI h fa fk fp fns fnr fq info.length fc n5 n6
theorem XhD (h:TAt w own i b c s cl q cm o ev ce oe)(fa fk:Int)(fp:Bool)(fns fnr:Int)(info:Msg)(hk:1≤fk∧fk≤9)(fq:Option Addr)(fc:Nat)(hl:s.out.length≤2199023255552)(hl2:s.events.length≤2199023255552):
  Calls Tryz.prog 123 #[.pointer (some ⟨b,0,none⟩),.agg #[.int .i64 fa,.int .i64 fk,.bool fp,.int .i64 fns,.int .i64 fnr,.slice fq info.length fc]] w fun e w'=>XA i b c (YM c (⟨fa,fk,fp,fns,fnr,info⟩:Fr) s) cl own w e w':=by
 have hkc:fk=5∨fk=6∨fk=7∨fk=8∨(fk=1∨fk=2∨fk=3∨fk=4∨fk=9):=by omega
 rcases hkc with rfl|rfl|rfl|rfl|hk4
 ·exact XkF h fa fp fns fnr fq info.length fc hl
 ·exact XkG h fa fp fns fnr fq info.length fc hl
 ·cases fp
  ·exact Xi5 h fa fns fnr fq info.length fc
  ·exact XkH h fa fns fnr fq info.length fc hl2
 ·cases fp
  ·exact Xi6 h fa fns fnr fq info.length fc
  ·exact XkI h fa fns fnr fq info.length fc hl2
 ·have n5:(fk==5)=false:=by rcases hk4 with rfl|rfl|rfl|rfl|rfl <;> rfl
  have n6:(fk==6)=false:=by rcases hk4 with rfl|rfl|rfl|rfl|rfl <;> rfl
  have n7:(fk==7)=false:=by rcases hk4 with rfl|rfl|rfl|rfl|rfl <;> rfl
  have n8:(fk==8)=false:=by rcases hk4 with rfl|rfl|rfl|rfl|rfl <;> rfl
  have e:YM c (⟨fa,fk,fp,fns,fnr,info⟩:Fr) s=s:=by
   unfold YM;rcases hk4 with rfl|rfl|rfl|rfl|rfl <;> simp
  rw[e];exact Xi7 h fa fk fp fns fnr fq info.length fc n5 n6 n7 n8
theorem XhY (h:TAt w own i b c s cl q cm o ev ce oe)(fa fk:Int)(fp:Bool)(fns fnr:Int)(info:Msg)(hk:1≤fk∧fk≤9)(fq:Option Addr)(fc:Nat)(hl:s.out.length≤2199023255552)(hl2:s.events.length≤2199023255552):
  Calls Tryz.prog 124 #[.pointer (some ⟨b,0,none⟩),.agg #[.int .i64 fa,.int .i64 fk,.bool fp,.int .i64 fns,.int .i64 fnr,.slice fq info.length fc]] w fun e w'=>XA i b c (YN c (⟨fa,fk,fp,fns,fnr,info⟩:Fr) s) cl own w e w':=by
 have hkc:fk=5∨fk=6∨fk=7∨fk=8∨(fk=1∨fk=2∨fk=3∨fk=4∨fk=9):=by omega
 rcases hkc with rfl|rfl|rfl|rfl|hk4
 ·exact Xk8 h fa fp fns fnr fq info.length fc hl
 ·exact Xk9 h fa fp fns fnr fq info.length fc hl
 ·cases fp
  ·exact Xju h fa fns fnr fq info.length fc
  ·exact Xla h fa fns fnr fq info.length fc hl2
 ·cases fp
  ·exact Xjv h fa fns fnr fq info.length fc
  ·exact Xlb h fa fns fnr fq info.length fc hl2
 ·have n5:(fk==5)=false:=by rcases hk4 with rfl|rfl|rfl|rfl|rfl <;> rfl
  have n6:(fk==6)=false:=by rcases hk4 with rfl|rfl|rfl|rfl|rfl <;> rfl
  have n7:(fk==7)=false:=by rcases hk4 with rfl|rfl|rfl|rfl|rfl <;> rfl
  have n8:(fk==8)=false:=by rcases hk4 with rfl|rfl|rfl|rfl|rfl <;> rfl
  have e:YN c (⟨fa,fk,fp,fns,fnr,info⟩:Fr) s=s:=by
   unfold YN;rcases hk4 with rfl|rfl|rfl|rfl|rfl <;> simp
  rw[e];exact Xjw h fa fk fp fns fnr fq info.length fc n5 n6 n7 n8
theorem Xi0 (h:TAt w own i b c s cl q cm o ev ce oe)(fa fk:Int)(fp cmd:Bool)(fns fnr:Int)(info:Msg)(hcmd:X8 c (⟨fa,fk,fp,fns,fnr,info⟩:Fr)=cmd)(hh:Zf c (⟨fa,fk,fp,fns,fnr,info⟩:Fr)=true)(hk:1≤fk∧fk≤9)(fq:Option Addr)(fc:Nat)(hl:s.out.length≤2199023255552)(hl2:s.events.length≤2199023255552):
  Calls Tryz.prog 125 #[.pointer (some ⟨b,0,none⟩),.agg #[.int .i64 fa,.int .i64 fk,.bool fp,.int .i64 fns,.int .i64 fnr,.slice fq info.length fc],.bool cmd] w fun e w'=>XA i b c (Y3 c (⟨fa,fk,fp,fns,fnr,info⟩:Fr) s) cl own w e w':=by
 have hkc:fk=5∨fk=6∨fk=8∨(fk=1∨fk=2∨fk=3∨fk=4)∨fk=7∨fk=9:=by omega
 rcases hkc with rfl|rfl|rfl|hk4|hk4
 ·exact Xms h fa fp cmd fns fnr fq info.length fc hl hl2
 ·exact Xmt h fa fp cmd fns fnr fq info.length fc hl hl2
 ·exact Xmu h fa fp cmd fns fnr fq info.length fc hl2
 ·have n5:(fk==5)=false:=by rcases hk4 with rfl|rfl|rfl|rfl <;> rfl
  have n6:(fk==6)=false:=by rcases hk4 with rfl|rfl|rfl|rfl <;> rfl
  have n8:(fk==8)=false:=by rcases hk4 with rfl|rfl|rfl|rfl <;> rfl
  have e:Y3 c (⟨fa,fk,fp,fns,fnr,info⟩:Fr) s=if X8 c (⟨fa,fk,fp,fns,fnr,info⟩:Fr)then report c fp s else s:=by
   rcases hk4 with rfl|rfl|rfl|rfl <;> rfl
  rw[e,hcmd];cases cmd
  ·exact XeS h fa fk fp fns fnr fq info.length fc n5 n6 n8
  ·exact XiZ h fa fk fp fns fnr fq info.length fc n5 n6 n8 hl
 ·have n5:(fk==5)=false:=by rcases hk4 with rfl|rfl <;> rfl
  have n6:(fk==6)=false:=by rcases hk4 with rfl|rfl <;> rfl
  have n8:(fk==8)=false:=by rcases hk4 with rfl|rfl <;> rfl
  have e:Y3 c (⟨fa,fk,fp,fns,fnr,info⟩:Fr) s=s:=by rcases hk4 with rfl|rfl <;> rfl
  have e2:Zf c (⟨fa,fk,fp,fns,fnr,info⟩:Fr)=!X8 c (⟨fa,fk,fp,fns,fnr,info⟩:Fr):=by rcases hk4 with rfl|rfl <;> rfl
  rw[e2,hcmd]at hh;have hc0:cmd=false:=by simpa using hh
  subst hc0;rw[e];exact XeS h fa fk fp fns fnr fq info.length fc n5 n6 n8
end
section
variable {w:World}{own:Nat→Nat}{i b:Nat}{c:Cfg}{s:St}{cl:Bool}{q cm o ev:Value}{ce oe:List Value}
theorem TAt.ans (h:TAt w own i b c s cl q cm o ev ce oe)(n:Nat){w':World}(hb:Below w.heap.size w w'):Yn n i b c s cl own w (.returned (.int .i64 n)) w':=⟨rfl,own,⟨_,_,_,_,_,_,h.later hb⟩,(Upd.refl i own w').of hb⟩
theorem XjO (m:Int)(l:List UInt8)(h:(Xi m l).1=0):1≤(Xi m l).2.k∧(Xi m l).2.k≤9:=by
 have hk:(XK m l).2=0→1≤(XK m l).1∧(XK m l).1≤9:=by
  intro h0;unfold XK at h0⊢;split
  ·rename_i hm
   rw[if_pos hm]at h0;cases h0
  ·rename_i hm
   rw[if_neg hm]at h0;cases l with
   |nil=>cases h0
   |cons a r=>
    simp only at h0⊢;split
    ·rename_i ha
     rw[if_pos ha]at h0;cases h0
    ·rename_i ha
     rw[if_neg ha]at h0;cases r with
     |nil=>cases h0
     |cons y t=>
      simp only at h0⊢;cases hf:XE m.toNat y.toNat 1 9 with
      |none=>rw[hf]at h0;cases h0
      |some k=>
       have:=Jr hf;simp only;omega
 unfold Xi at h⊢;simp only at h⊢;split
 ·rename_i h1
  rw[if_pos h1]at h;exact absurd h h1
 ·rename_i h1
  rw[if_neg h1]at h;split
  ·rename_i h2
   rw[if_pos h2]at h;cases h
  ·rename_i h2
   rw[if_neg h2]at h;split
   ·rename_i h3
    rw[if_pos h3]at h;cases h
   ·have h4:=hk (by simpa using h1)
    have e:(XY m.toNat (XK m l).1 (l.drop 1)).k=(((XK m l).1:Nat):Int):=by
     unfold XY;simp only
     repeat' split
     all_goals rfl
    simp only[e];omega
theorem Xhr (h:TAt w own i b c s true q cm o ev ce oe)(v:Value):
  Calls Tryz.prog 94 #[.pointer (some ⟨b,0,none⟩),v] w fun e w'=>Yn 8 i b c s true own w e w':=by
 have c21:=h.c21;have hlt:=h.lt;have HE:=hide (h.ans 8 (Below.refl _ w));clear h;go_enter Tryz.func94,Tryz.ntmps94
 go_wp2
 go_ret
 exact Xa HE
theorem XlY (h:TAt w own i b c s false q cm o ev ce oe)(p:Option Addr)(cp:Nat)(l:List UInt8)(hsrc:XU w p l)(hll:l.length≤1048576)(hcp:l.length≤cp)(he:(Xi c.m l).1≠0):
  Calls Tryz.prog 94 #[.pointer (some ⟨b,0,none⟩),.slice p l.length cp] w fun e w'=>Yn (Xi c.m l).1 i b c s false own w e w':=by
 have c21:=h.c21;have c0:=h.c0;have hlt:=h.lt;have K1:=hide (YQ c.m p cp l w hsrc hll hcp);have HE:=hide fun(w':World) (hb:Below w.heap.size w w')=>h.ans (Xi c.m l).1 hb
 have hneI:(((Xi c.m l).1:Nat):Int)≠0:=by omega
 have hne2:((((Xi c.m l).1:Nat):Int)==0)=false:=by simp;exact he
 clear h hsrc he;go_enter Tryz.func94,Tryz.ntmps94
 go_wp2_with fail
 refine(Xa K1).mono ?_;rintro e w1 ⟨q1,cp1,rfl,_,_,hb1⟩;have HF:=hide fun o=>Xa HE _ (hb1.alloc hb1.size o)
 clear K1 HE hb1 c21 c0;generalize hre:(Xi c.m l).1=er at*;generalize (Xi c.m l).2=fr at*;obtain⟨fa,fk,fp,fns,fnr,info⟩:=fr;have HRE:=hide hre;clear hre;go_wp2
 go_ret
 rw[Xa HRE];exact Xa HF _
theorem XlZ (h:TAt w own i b c s false q cm o ev ce oe)(p:Option Addr)(cp:Nat)(l:List UInt8)(fa:Int)(fp:Bool)(fns fnr:Int)(info:Msg)(hsrc:XU w p l)(hll:l.length≤1048576)(hcp:l.length≤cp)(hrd:Xi c.m l=(0,⟨fa,1,fp,fns,fnr,info⟩))(hcmd:(fa==(c.addr:Int))=false):
  Calls Tryz.prog 94 #[.pointer (some ⟨b,0,none⟩),.slice p l.length cp] w fun e w'=>Yn 0 i b c s false own w e w':=by
 have c21:=h.c21;have c0:=h.c0;have hlt:=h.lt;have k1:=YQ c.m p cp l w hsrc hll hcp;rw[hrd]at k1;have K1:=hide k1;have H:=hide h;clear h hsrc hrd k1;go_enter Tryz.func94,Tryz.ntmps94
 go_wp2_with fail
 refine(Xa K1).mono ?_;rintro e w1 ⟨q1,cp1,rfl,_,_,hb1⟩;have h1:=(Xa H).later hb1;have c5:=h1.c5;have hlt1:=h1.lt;have HF:=hide fun n x=>(Xa H).ans 0 (below_drewN (hb1.alloc hb1.size x) n)
 clear K1 H h1 hb1 c21 c0;go_wp2_with fail
 go_quiet (fail)
 go_wp2
 go_ret
 exact Xa HF _ _
theorem Xl0 (h:TAt w own i b c s false q cm o ev ce oe)(p:Option Addr)(cp:Nat)(l:List UInt8)(fa:Int)(fp:Bool)(fns fnr:Int)(info:Msg)(hsrc:XU w p l)(hll:l.length≤1048576)(hcp:l.length≤cp)(hrd:Xi c.m l=(0,⟨fa,5,fp,fns,fnr,info⟩))(hcmd:(fa==(c.addr:Int))=false):
  Calls Tryz.prog 94 #[.pointer (some ⟨b,0,none⟩),.slice p l.length cp] w fun e w'=>Yn 0 i b c s false own w e w':=by
 have c21:=h.c21;have c0:=h.c0;have hlt:=h.lt;have k1:=YQ c.m p cp l w hsrc hll hcp;rw[hrd]at k1;have K1:=hide k1;have H:=hide h;clear h hsrc hrd k1;go_enter Tryz.func94,Tryz.ntmps94
 go_wp2_with fail
 refine(Xa K1).mono ?_;rintro e w1 ⟨q1,cp1,rfl,_,_,hb1⟩;have h1:=(Xa H).later hb1;have c5:=h1.c5;have hlt1:=h1.lt;have HF:=hide fun n x=>(Xa H).ans 0 (below_drewN (hb1.alloc hb1.size x) n)
 clear K1 H h1 hb1 c21 c0;go_wp2_with fail
 go_quiet (fail)
 go_wp2
 go_ret
 exact Xa HF _ _
theorem Xl1 (h:TAt w own i b c s false q cm o ev ce oe)(p:Option Addr)(cp:Nat)(l:List UInt8)(fa:Int)(fp:Bool)(fns fnr:Int)(info:Msg)(hsrc:XU w p l)(hll:l.length≤1048576)(hcp:l.length≤cp)(hrd:Xi c.m l=(0,⟨fa,6,fp,fns,fnr,info⟩))(hcmd:(fa==(c.addr:Int))=false):
  Calls Tryz.prog 94 #[.pointer (some ⟨b,0,none⟩),.slice p l.length cp] w fun e w'=>Yn 0 i b c s false own w e w':=by
 have c21:=h.c21;have c0:=h.c0;have hlt:=h.lt;have k1:=YQ c.m p cp l w hsrc hll hcp;rw[hrd]at k1;have K1:=hide k1;have H:=hide h;clear h hsrc hrd k1;go_enter Tryz.func94,Tryz.ntmps94
 go_wp2_with fail
 refine(Xa K1).mono ?_;rintro e w1 ⟨q1,cp1,rfl,_,_,hb1⟩;have h1:=(Xa H).later hb1;have c5:=h1.c5;have hlt1:=h1.lt;have HF:=hide fun n x=>(Xa H).ans 0 (below_drewN (hb1.alloc hb1.size x) n)
 clear K1 H h1 hb1 c21 c0;go_wp2_with fail
 go_quiet (fail)
 go_wp2
 go_ret
 exact Xa HF _ _
theorem Xl2 (h:TAt w own i b c s false q cm o ev ce oe)(p:Option Addr)(cp:Nat)(l:List UInt8)(fa:Int)(fp:Bool)(fns fnr:Int)(info:Msg)(hsrc:XU w p l)(hll:l.length≤1048576)(hcp:l.length≤cp)(hrd:Xi c.m l=(0,⟨fa,7,fp,fns,fnr,info⟩))(hcmd:(fa==(c.addr:Int))=true):
  Calls Tryz.prog 94 #[.pointer (some ⟨b,0,none⟩),.slice p l.length cp] w fun e w'=>Yn 0 i b c s false own w e w':=by
 have c21:=h.c21;have c0:=h.c0;have hlt:=h.lt;have k1:=YQ c.m p cp l w hsrc hll hcp;rw[hrd]at k1;have K1:=hide k1;have H:=hide h;clear h hsrc hrd k1;go_enter Tryz.func94,Tryz.ntmps94
 go_wp2_with fail
 refine(Xa K1).mono ?_;rintro e w1 ⟨q1,cp1,rfl,_,_,hb1⟩;have h1:=(Xa H).later hb1;have c5:=h1.c5;have hlt1:=h1.lt;have HF:=hide fun n x=>(Xa H).ans 0 (below_drewN (hb1.alloc hb1.size x) n)
 clear K1 H h1 hb1 c21 c0;go_wp2_with fail
 go_quiet (fail)
 go_wp2
 go_ret
 exact Xa HF _ _
theorem Xl3 (h:TAt w own i b c s false q cm o ev ce oe)(p:Option Addr)(cp:Nat)(l:List UInt8)(fa:Int)(fp:Bool)(fns fnr:Int)(info:Msg)(hsrc:XU w p l)(hll:l.length≤1048576)(hcp:l.length≤cp)(hrd:Xi c.m l=(0,⟨fa,8,fp,fns,fnr,info⟩))(hcmd:(fa==(c.addr:Int))=true):
  Calls Tryz.prog 94 #[.pointer (some ⟨b,0,none⟩),.slice p l.length cp] w fun e w'=>Yn 0 i b c s false own w e w':=by
 have c21:=h.c21;have c0:=h.c0;have hlt:=h.lt;have k1:=YQ c.m p cp l w hsrc hll hcp;rw[hrd]at k1;have K1:=hide k1;have H:=hide h;clear h hsrc hrd k1;go_enter Tryz.func94,Tryz.ntmps94
 go_wp2_with fail
 refine(Xa K1).mono ?_;rintro e w1 ⟨q1,cp1,rfl,_,_,hb1⟩;have h1:=(Xa H).later hb1;have c5:=h1.c5;have hlt1:=h1.lt;have HF:=hide fun n x=>(Xa H).ans 0 (below_drewN (hb1.alloc hb1.size x) n)
 clear K1 H h1 hb1 c21 c0;go_wp2_with fail
 go_quiet (fail)
 go_wp2
 go_ret
 exact Xa HF _ _
theorem Xl4 (h:TAt w own i b c s false q cm o ev ce oe)(p:Option Addr)(cp:Nat)(l:List UInt8)(fa:Int)(fp:Bool)(fns fnr:Int)(info:Msg)(hsrc:XU w p l)(hll:l.length≤1048576)(hcp:l.length≤cp)(hrd:Xi c.m l=(0,⟨fa,9,fp,fns,fnr,info⟩))(hcmd:(fa==(c.addr:Int))=true):
  Calls Tryz.prog 94 #[.pointer (some ⟨b,0,none⟩),.slice p l.length cp] w fun e w'=>Yn 0 i b c s false own w e w':=by
 have c21:=h.c21;have c0:=h.c0;have hlt:=h.lt;have k1:=YQ c.m p cp l w hsrc hll hcp;rw[hrd]at k1;have K1:=hide k1;have H:=hide h;clear h hsrc hrd k1;go_enter Tryz.func94,Tryz.ntmps94
 go_wp2_with fail
 refine(Xa K1).mono ?_;rintro e w1 ⟨q1,cp1,rfl,_,_,hb1⟩;have h1:=(Xa H).later hb1;have c5:=h1.c5;have hlt1:=h1.lt;have HF:=hide fun n x=>(Xa H).ans 0 (below_drewN (hb1.alloc hb1.size x) n)
 clear K1 H h1 hb1 c21 c0;go_wp2_with fail
 go_quiet (fail)
 go_wp2
 go_ret
 exact Xa HF _ _
end
section
variable {w:World}{own:Nat→Nat}{i b:Nat}{c:Cfg}{s:St}{cl:Bool}{q cm o ev:Value}{ce oe:List Value}
theorem Xed (h:TAt w own i b c s true q cm o ev ce oe):
  Calls Tryz.prog 52 #[.pointer (some ⟨b,0,none⟩)] w fun e w'=>Yn 8 i b c s true own w e w':=by
 have c21:=h.c21;have hlt:=h.lt;have HE:=hide (h.ans 8 (Below.refl _ w));clear h;go_enter Tryz.func52,Tryz.ntmps52
 go_wp2
 go_ret
 exact Xa HE
theorem XfU (h:TAt w own i b c s true q cm o ev ce oe):
  Calls Tryz.prog 54 #[.pointer (some ⟨b,0,none⟩)] w fun e w'=>Yn 8 i b c s true own w e w':=by
 have c21:=h.c21;have hlt:=h.lt;have HE:=hide (h.ans 8 (Below.refl _ w));clear h;go_enter Tryz.func54,Tryz.ntmps54
 go_wp2
 go_ret
 exact Xa HE
theorem XfR (h:TAt w own i b c s true q cm o ev ce oe):
  Calls Tryz.prog 60 #[.pointer (some ⟨b,0,none⟩)] w fun e w'=>Yn 8 i b c s true own w e w':=by
 have c21:=h.c21;have hlt:=h.lt;have HE:=hide (h.ans 8 (Below.refl _ w));clear h;go_enter Tryz.func60,Tryz.ntmps60
 go_wp2
 go_ret
 exact Xa HE
theorem Xho (h:TAt w own i b c s true q cm o ev ce oe)(on:Bool):
  Calls Tryz.prog 58 #[.pointer (some ⟨b,0,none⟩),.bool on] w fun e w'=>Yn 8 i b c s true own w e w':=by
 have c21:=h.c21;have hlt:=h.lt;have HE:=hide (h.ans 8 (Below.refl _ w));clear h;go_enter Tryz.func58,Tryz.ntmps58
 go_wp2
 go_ret
 exact Xa HE
theorem Xhx (h:TAt w own i b c s true q cm o ev ce oe):
  Calls Tryz.prog 62 #[.pointer (some ⟨b,0,none⟩)] w fun e w'=>Yn 8 i b c s true own w e w':=by
 have c21:=h.c21;have hlt:=h.lt;have HE:=hide (h.ans 8 (Below.refl _ w));clear h;go_enter Tryz.func62,Tryz.ntmps62
 go_wp2
 go_ret
 exact Xa HE
theorem Xhv (h:TAt w own i b c s true q cm o ev ce oe)(v:Value):
  Calls Tryz.prog 56 #[.pointer (some ⟨b,0,none⟩),v] w fun e w'=>Yn 8 i b c s true own w e w':=by
 have c21:=h.c21;have hlt:=h.lt;have HE:=hide (h.ans 8 (Below.refl _ w));clear h;go_enter Tryz.func56,Tryz.ntmps56
 go_wp2
 go_ret
 exact Xa HE
theorem Xiu (h:TAt w own i b c s false q cm o ev ce oe)(hst:s.state=0∨s.state=4)(hl:s.out.length≤2199023255552):
  Calls Tryz.prog 52 #[.pointer (some ⟨b,0,none⟩)] w fun e w'=>Yn 0 i b c (ask c 1 5 s) false own w e w':=by
 have c21:=h.c21;have c6:=h.c6;have hlt:=h.lt;have K1:=hide (XbG h 1 5 (by omega) hl);clear h;rcases hst with e|e
 all_goals
  rw[e]at c6;clear e;go_enter Tryz.func52,Tryz.ntmps52
  go_wp2_with fail
  refine(Xa K1).mono ?_;rintro e w1 ⟨rfl,own1,h1,u1⟩;have HR:=hide (And.intro h1 u1);clear K1 h1 u1 c21 c6;go_wp2
  go_ret
  exact⟨rfl,_,(Xa HR).1,(Xa HR).2⟩
theorem Xit (h:TAt w own i b c s false q cm o ev ce oe)(hst:s.state=1∨s.state=2∨s.state=3):
  Calls Tryz.prog 52 #[.pointer (some ⟨b,0,none⟩)] w fun e w'=>Yn 6 i b c s false own w e w':=by
 have c21:=h.c21;have c6:=h.c6;have hlt:=h.lt;have HE:=hide (h.ans 6 (Below.refl _ w));clear h;rcases hst with e|e|e
 all_goals
  rw[e]at c6;clear e;go_enter Tryz.func52,Tryz.ntmps52
  go_wp2
  go_ret
  exact Xa HE
theorem Xl8 (h:TAt w own i b c s false q cm o ev ce oe)(hst:s.state=1∨s.state=2∨s.state=4)(hl:s.out.length≤2199023255552):
  Calls Tryz.prog 54 #[.pointer (some ⟨b,0,none⟩)] w fun e w'=>Yn 0 i b c (ask c 3 6 s) false own w e w':=by
 have c21:=h.c21;have c6:=h.c6;have hlt:=h.lt;have K1:=hide (XbG h 3 6 (by omega) hl);clear h;rcases hst with e|e|e
 all_goals
  rw[e]at c6;clear e;go_enter Tryz.func54,Tryz.ntmps54
  go_wp2_with fail
  refine(Xa K1).mono ?_;rintro e w1 ⟨rfl,own1,h1,u1⟩;have HR:=hide (And.intro h1 u1);clear K1 h1 u1 c21 c6;go_wp2
  go_ret
  exact⟨rfl,_,(Xa HR).1,(Xa HR).2⟩
theorem Xl7 (h:TAt w own i b c s false q cm o ev ce oe)(hst:s.state=0∨s.state=3):
  Calls Tryz.prog 54 #[.pointer (some ⟨b,0,none⟩)] w fun e w'=>Yn 6 i b c s false own w e w':=by
 have c21:=h.c21;have c6:=h.c6;have hlt:=h.lt;have HE:=hide (h.ans 6 (Below.refl _ w));clear h;rcases hst with e|e
 all_goals
  rw[e]at c6;clear e;go_enter Tryz.func54,Tryz.ntmps54
  go_wp2
  go_ret
  exact Xa HE
theorem XlV (h:TAt w own i b c s false q cm o ev ce oe):
  Calls Tryz.prog 60 #[.pointer (some ⟨b,0,none⟩)] w fun e w'=>Yn 0 i b c s true own w e w':=by
 have c21:=h.c21;have hlt:=h.lt;have fz:=h.fz;have hK:Xb (· =b) w (w.setCell ⟨b,21,none⟩ (.bool true)):=(Xb.refl _ w).setB 21 _;have h2:=h.wrote hK ((h.hd.shut true).as s rfl) rfl rfl rfl rfl h.sok;have HR:=hide (And.intro h2 (h.upd hK));clear h h2 hK;go_enter Tryz.func60,Tryz.ntmps60
 go_wp2
 go_ret
 exact⟨rfl,_,⟨_,_,_,_,_,_,(Xa HR).1⟩,(Xa HR).2⟩
theorem Xnn (h:TAt w own i b c s false q cm o ev ce oe)(on:Bool)(hl:s.out.length≤2199023255552):
  Calls Tryz.prog 58 #[.pointer (some ⟨b,0,none⟩),.bool on] w fun e w'=>Yn 0 i b c (Qz c on s) false own w e w':=by
 have c21:=h.c21;have hlt:=h.lt;have K1:=hide (Zx h);have hdef:Qz c on s=if s.state=2∧XO c {s with busy:=on}≠XO c s then answer c false {s with busy:=on} else {s with busy:=on}:=rfl
 have K2:Hid (∀ N,Calls Tryz.prog 91 #[.pointer (some ⟨b,0,none⟩)] ((w.drewN N).setCell ⟨b,16,none⟩ (.bool on)) _):=hide fun N=>Zx ((h.drewN N).wrote (s':={s with busy:=on}) ((Xb.refl _ _).setB 16 (.bool on)) ((h.drewN N).hd.busy on) rfl rfl rfl rfl ⟨h.sok.state,h.sok.vs,h.sok.va,h.sok.vr,h.sok.vm,h.sok.q20,h.sok.q32,h.sok.timer,h.sok.tries,h.sok.came⟩)
 have HX:Hid (∀ N N2,TAt (((w.drewN N).setCell ⟨b,16,none⟩ (.bool on)).drewN N2) own i b c {s with busy:=on} false q cm o ev ce oe∧Upd i own own w (((w.drewN N).setCell ⟨b,16,none⟩ (.bool on)).drewN N2)):=hide fun N N2=>by
  have h2:=(h.drewN N).wrote (s':={s with busy:=on}) ((Xb.refl _ _).setB 16 (.bool on)) ((h.drewN N).hd.busy on) rfl rfl rfl rfl ⟨h.sok.state,h.sok.vs,h.sok.va,h.sok.vr,h.sok.vm,h.sok.q20,h.sok.q32,h.sok.timer,h.sok.tries,h.sok.came⟩;exact⟨h2.drewN N2,(Upd.of (below_drewN (Below.refl _ w) N) ((h.drewN N).upd ((Xb.refl _ _).setB 16 (.bool on)))).trans ⟨(Xb.refl _ _).drewN N2,fun _ _=>rfl⟩⟩
 have c16:∀N,(w.drewN N).cell? ⟨b,16,none⟩=some (.bool s.busy):=fun N=>(h.drewN N).cell 16 rfl
 have fz:∀N j,(w.drewN N).frozen? ⟨b,j,none⟩=false:=fun N=>(h.drewN N).fz
 clear h;generalize XO c {s with busy:=on}=a2 at*;generalize XO c s=a1 at*;go_enter Tryz.func58,Tryz.ntmps58
 go_wp2_with fail
 refine(Xa K1).mono ?_;rintro e w1 ⟨rfl,n1,rfl⟩;have d16:=c16 n1;have fz1:=fz n1;have K3:=hide (Xa K2 n1);clear K1 K2 c16 fz;go_wp2_with fail
 refine(Xa K3).mono ?_;rintro e w2 ⟨rfl,n2,rfl⟩;obtain⟨h3,u3⟩:=Xa HX n1 n2;clear K3 HX d16 fz1 c21;generalize (((w.drewN n1).setCell ⟨b,16,none⟩ (.bool on)).drewN n2)=V at*;have c6:=h3.c6;have hlt3:=h3.lt;have K4:=hide (ZP h3 false false hl);have HR:=hide (And.intro h3 u3);have HD:=hide hdef;clear h3 u3 hdef;by_cases hst:s.state=2
 ·rw[hst]at c6;by_cases hne:a2=a1
  ·have HP:Hid (Qz c on s={s with busy:=on}):=hide ((Xa HD).trans (if_neg (fun hh=>hh.2 hne)));subst hne;clear K4 HD hst;go_wp2
   go_ret
   rw[Xa HP];exact⟨rfl,_,⟨_,_,_,_,_,_,(Xa HR).1⟩,(Xa HR).2⟩
  ·have HP:Hid (Qz c on s=answer c false {s with busy:=on}):=hide ((Xa HD).trans (if_pos ⟨hst,hne⟩));clear HD hst;have hx:(a1=true∧a2=false)∨(a1=false∧a2=true):=by cases a1 <;> cases a2 <;> simp at hne⊢
   clear hne;rcases hx with⟨rfl,rfl⟩|⟨rfl,rfl⟩
   all_goals
    go_wp2_with fail
    refine(Xa K4).mono ?_;rintro e w5 ⟨rfl,own5,o5,oe5,h5,u5⟩;have HR5:=hide (And.intro h5 ((Xa HR).2.trans u5));clear K4 h5 u5 c6 HR;go_wp2
    go_ret
    rw[Xa HP];exact⟨rfl,_,⟨_,_,_,_,_,_,(Xa HR5).1⟩,(Xa HR5).2⟩
 ·have HP:Hid (Qz c on s={s with busy:=on}):=hide ((Xa HD).trans (if_neg (fun hh=>hst hh.1)));have hsI:((s.state:Int)==2)=false:=by simp;omega
  clear K4 HD hst;go_wp2
  go_ret
  rw[Xa HP];exact⟨rfl,_,⟨_,_,_,_,_,_,(Xa HR).1⟩,(Xa HR).2⟩
end
section
variable {w:World}{own:Nat→Nat}{i b:Nat}{c:Cfg}{s:St}{cl:Bool}{q cm o ev:Value}{ce oe:List Value}
theorem XoA (h:TAt w own i b c s false q cm o ev ce oe)(ht:s.timer=0):
  Calls Tryz.prog 62 #[.pointer (some ⟨b,0,none⟩)] w fun e w'=>Yn 0 i b c s false own w e w':=by
 have c21:=h.c21;have c12:=h.c12;rw[ht]at c12;have hlt:=h.lt;have HE:=hide (h.ans 0 (Below.refl _ w));clear h;go_enter Tryz.func62,Tryz.ntmps62
 go_wp2
 go_ret
 exact Xa HE
theorem XoB (h:TAt w own i b c s false q cm o ev ce oe)(ht:2≤s.timer):
  Calls Tryz.prog 62 #[.pointer (some ⟨b,0,none⟩)] w fun e w'=>Yn 0 i b c {s with timer:=s.timer-1} false own w e w':=by
 have c21:=h.c21;have c12:=h.c12;have hlt:=h.lt;have fz:=h.fz;have htm:=h.sok.timer;have h100:=h.cok.tim100;have hK:Xb (· =b) w (w.setCell ⟨b,12,none⟩ (.int .i64 (s.timer-1:Nat))):=(Xb.refl _ w).setB 12 _;have h2:=h.wrote hK ((h.hd.timer (s.timer-1)).as {s with timer:=s.timer-1} rfl) rfl rfl rfl rfl ⟨h.sok.state,h.sok.vs,h.sok.va,h.sok.vr,h.sok.vm,h.sok.q20,h.sok.q32,by show s.timer-1≤c.tim;omega,h.sok.tries,h.sok.came⟩;have HR:=hide (And.intro h2 (h.upd hK));clear h h2 hK;have hz:((s.timer:Int)==0)=false:=by simp;omega
 have hf:(s.timer:Int)-1=((s.timer-1:Nat):Int):=by omega
 have hp:(0:Int)<((s.timer-1:Nat):Int):=by omega
 have hb:(s.timer:Int)≤100:=by omega
 have hb0:(0:Int)≤(s.timer:Int):=by omega
 clear ht htm h100;generalize s.timer-1=t1 at*;go_enter Tryz.func62,Tryz.ntmps62
 go_wp2
 go_ret
 exact⟨rfl,_,⟨_,_,_,_,_,_,(Xa HR).1⟩,(Xa HR).2⟩
theorem Xmc (h:TAt w own i b c s false q cm o ev ce oe)(ht:s.timer=1)(hr:s.tries=c.tri)(hl2:s.events.length≤2199023255552):
  Calls Tryz.prog 62 #[.pointer (some ⟨b,0,none⟩)] w fun e w'=>Yn 0 i b c (Zi 4 {s with timer:=0}) false own w e w':=by
 have c21:=h.c21;have c12:=h.c12;rw[ht]at c12;have c13:=h.c13;have c3:=h.c3;have hlt:=h.lt;have fz:=h.fz;have hK:Xb (· =b) w (w.setCell ⟨b,12,none⟩ (.int .i64 (0:Nat))):=(Xb.refl _ w).setB 12 _;have h2:=h.wrote hK ((h.hd.timer 0).as {s with timer:=0} rfl) rfl rfl rfl rfl ⟨h.sok.state,h.sok.vs,h.sok.va,h.sok.vr,h.sok.vm,h.sok.q20,h.sok.q32,Nat.zero_le _,h.sok.tries,h.sok.came⟩;have u2:=h.upd hK;have htr:=h.sok.tries;have H2:=hide (And.intro h2 u2);clear h h2 u2 hK;have hge:((c.tri:Nat):Int)≤((s.tries:Nat):Int):=by omega
 clear hr htr;go_enter Tryz.func62,Tryz.ntmps62
 go_wp2_with fail
 go_quiet (fail)
 have hV:=(Xa H2).1.drewN nq;have uV:=(Xa H2).2.trans (⟨(Xb.refl _ _).drewN nq,fun _ _=>rfl⟩:Upd i own own _ ((w.setCell ⟨b,12,none⟩ (.int .i64 (0:Nat))).drewN nq));have K2:=hide (YG hV 0 4 (by omega) hl2);have HU:=hide uV;clear hV uV H2;go_wp2_with fail
 refine(Xa K2).mono ?_;rintro e w5 ⟨rfl,own5,h5,u5⟩;have HR:=hide (And.intro h5 ((Xa HU).trans u5));clear K2 h5 u5 HU c21 c12 c13 c3 fz;go_wp2
 go_ret
 exact⟨rfl,_,(Xa HR).1,(Xa HR).2⟩
theorem Xnv (h:TAt w own i b c s false q cm o ev ce oe)(ht:s.timer=1)(hr:s.tries<c.tri)(hst:s.state=1)(hl:s.out.length≤2199023255552):
  Calls Tryz.prog 62 #[.pointer (some ⟨b,0,none⟩)] w fun e w'=>Yn 0 i b c (Za c ⟨0,5,true,0,0,[]⟩ {s with tries:=s.tries+1,timer:=c.tim}) false own w e w':=by
 have h10:=h.cok.tri10;have c21:=h.c21;have c12:=h.c12;rw[ht]at c12;have c13:=h.c13;have c3:=h.c3;have hlt:=h.lt;have fz:=h.fz;have hK:Xb (· =b) w (w.setCell ⟨b,12,none⟩ (.int .i64 (0:Nat))):=(Xb.refl _ w).setB 12 _;have h2:=h.wrote hK ((h.hd.timer 0).as {s with timer:=0} rfl) rfl rfl rfl rfl ⟨h.sok.state,h.sok.vs,h.sok.va,h.sok.vr,h.sok.vm,h.sok.q20,h.sok.q32,Nat.zero_le _,h.sok.tries,h.sok.came⟩;have u2:=h.upd hK;have htr:=h.sok.tries;have H2:=hide (And.intro h2 u2);clear h h2 u2 hK;have hge:¬((c.tri:Nat):Int)≤((s.tries:Nat):Int):=by omega
 go_enter Tryz.func62,Tryz.ntmps62
 go_wp2_with fail
 go_quiet (fail)
 have hV:=(Xa H2).1.drewN nq;have uV:=(Xa H2).2.trans (⟨(Xb.refl _ _).drewN nq,fun _ _=>rfl⟩:Upd i own own _ ((w.setCell ⟨b,12,none⟩ (.int .i64 (0:Nat))).drewN nq));clear H2 c21 c12 c13 c3 fz;have hgen:∀V,TAt V own i b c {s with timer:=0} false q cm o ev ce oe→Upd i own own w V→True:=fun _ _ _=>trivial
 clear hgen;go_upto_region 11 with fail
 obtain⟨V,hVV⟩:∃V,V=(w.setCell ⟨b,12,none⟩ (.int .i64 0)).drewN nq:=⟨_,rfl⟩;have hV:TAt V own i b c {s with timer:=0} false q cm o ev ce oe:=by rw[hVV];exact hV
 have uV:Upd i own own w V:=by rw[hVV];exact uV
 rw[← hVV];clear hVV;have c2:=hV.c2;have c6:=hV.c6;rw[hst]at c6;have c12:V.cell? ⟨b,12,none⟩=some (.int .i64 (0:Nat)):=hV.cell 12 rfl;have c13:=hV.c13;have c14:=hV.c14;have fz:=hV.fz;have hltV:=hV.lt;have hK:Xb (· =b) V ((V.setCell ⟨b,13,none⟩ (.int .i64 ((s.tries+1:Nat):Int))).setCell ⟨b,12,none⟩ (.int .i64 c.tim)):=(((Xb.refl _ V).setB 13 _).setB 12 _);have h3:=hV.wrote hK (((hV.hd.tries (s.tries+1)).timer c.tim).as {s with tries:=s.tries+1,timer:=c.tim} rfl) rfl rfl rfl rfl ⟨hV.sok.state,hV.sok.vs,hV.sok.va,hV.sok.vr,hV.sok.vm,hV.sok.q20,hV.sok.q32,Nat.le_refl _,by show s.tries+1≤c.tri;omega,hV.sok.came⟩;have k3:=YR h3 true ⟨0,5,true,0,0,[]⟩ none 0 (Y6 _) hl;unfold frV at k3;have K3:=hide k3;have HU:=hide (uV.trans (hV.upd hK));have hf:((s.tries:Nat):Int)+1=((s.tries+1:Nat):Int):=by omega
 clear hV uV hK h3 k3 hr hge htr;generalize htr1:s.tries+1=tr1 at*;have HTR:=hide htr1;clear htr1;go_wp2_with fail
 refine(Xa K3).mono ?_;rintro e w5 ⟨rfl,own5,o5,oe5,h5,u5⟩;have HR:=hide (And.intro h5 ((Xa HU).trans u5));clear K3 h5 u5 HU c2 c6 c12 c13 c14 fz;go_wp2
 go_ret
 rw[Xa HTR];exact⟨rfl,_,⟨_,_,_,_,_,_,(Xa HR).1⟩,(Xa HR).2⟩
theorem Xnx (h:TAt w own i b c s false q cm o ev ce oe)(ht:s.timer=1)(hr:s.tries<c.tri)(hst:s.state=3)(hl:s.out.length≤2199023255552):
  Calls Tryz.prog 62 #[.pointer (some ⟨b,0,none⟩)] w fun e w'=>Yn 0 i b c (Za c ⟨0,6,true,0,0,[]⟩ {s with tries:=s.tries+1,timer:=c.tim}) false own w e w':=by
 have h10:=h.cok.tri10;have c21:=h.c21;have c12:=h.c12;rw[ht]at c12;have c13:=h.c13;have c3:=h.c3;have hlt:=h.lt;have fz:=h.fz;have hK:Xb (· =b) w (w.setCell ⟨b,12,none⟩ (.int .i64 (0:Nat))):=(Xb.refl _ w).setB 12 _;have h2:=h.wrote hK ((h.hd.timer 0).as {s with timer:=0} rfl) rfl rfl rfl rfl ⟨h.sok.state,h.sok.vs,h.sok.va,h.sok.vr,h.sok.vm,h.sok.q20,h.sok.q32,Nat.zero_le _,h.sok.tries,h.sok.came⟩;have u2:=h.upd hK;have htr:=h.sok.tries;have H2:=hide (And.intro h2 u2);clear h h2 u2 hK;have hge:¬((c.tri:Nat):Int)≤((s.tries:Nat):Int):=by omega
 go_enter Tryz.func62,Tryz.ntmps62
 go_wp2_with fail
 go_quiet (fail)
 have hV:=(Xa H2).1.drewN nq;have uV:=(Xa H2).2.trans (⟨(Xb.refl _ _).drewN nq,fun _ _=>rfl⟩:Upd i own own _ ((w.setCell ⟨b,12,none⟩ (.int .i64 (0:Nat))).drewN nq));clear H2 c21 c12 c13 c3 fz;have hgen:∀V,TAt V own i b c {s with timer:=0} false q cm o ev ce oe→Upd i own own w V→True:=fun _ _ _=>trivial
 clear hgen;go_upto_region 11 with fail
 obtain⟨V,hVV⟩:∃V,V=(w.setCell ⟨b,12,none⟩ (.int .i64 0)).drewN nq:=⟨_,rfl⟩;have hV:TAt V own i b c {s with timer:=0} false q cm o ev ce oe:=by rw[hVV];exact hV
 have uV:Upd i own own w V:=by rw[hVV];exact uV
 rw[← hVV];clear hVV;have c2:=hV.c2;have c6:=hV.c6;rw[hst]at c6;have c12:V.cell? ⟨b,12,none⟩=some (.int .i64 (0:Nat)):=hV.cell 12 rfl;have c13:=hV.c13;have c14:=hV.c14;have fz:=hV.fz;have hltV:=hV.lt;have hK:Xb (· =b) V ((V.setCell ⟨b,13,none⟩ (.int .i64 ((s.tries+1:Nat):Int))).setCell ⟨b,12,none⟩ (.int .i64 c.tim)):=(((Xb.refl _ V).setB 13 _).setB 12 _);have h3:=hV.wrote hK (((hV.hd.tries (s.tries+1)).timer c.tim).as {s with tries:=s.tries+1,timer:=c.tim} rfl) rfl rfl rfl rfl ⟨hV.sok.state,hV.sok.vs,hV.sok.va,hV.sok.vr,hV.sok.vm,hV.sok.q20,hV.sok.q32,Nat.le_refl _,by show s.tries+1≤c.tri;omega,hV.sok.came⟩;have k3:=YR h3 true ⟨0,6,true,0,0,[]⟩ none 0 (Y6 _) hl;unfold frV at k3;have K3:=hide k3;have HU:=hide (uV.trans (hV.upd hK));have hf:((s.tries:Nat):Int)+1=((s.tries+1:Nat):Int):=by omega
 clear hV uV hK h3 k3 hr hge htr;generalize htr1:s.tries+1=tr1 at*;have HTR:=hide htr1;clear htr1;go_wp2_with fail
 refine(Xa K3).mono ?_;rintro e w5 ⟨rfl,own5,o5,oe5,h5,u5⟩;have HR:=hide (And.intro h5 ((Xa HU).trans u5));clear K3 h5 u5 HU c2 c6 c12 c13 c14 fz;go_wp2
 go_ret
 rw[Xa HTR];exact⟨rfl,_,⟨_,_,_,_,_,_,(Xa HR).1⟩,(Xa HR).2⟩
theorem Xnw (h:TAt w own i b c s false q cm o ev ce oe)(ht:s.timer=1)(hr:s.tries<c.tri)(hst:s.state=2)(hl:s.out.length≤2199023255552):
  Calls Tryz.prog 62 #[.pointer (some ⟨b,0,none⟩)] w fun e w'=>Yn 0 i b c (Za c ⟨0,ready c s,true,0,s.vr,[]⟩ {s with tries:=s.tries+1,timer:=c.tim,Xh:=true}) false own w e w':=by
 have h10:=h.cok.tri10;have c21:=h.c21;have c12:=h.c12;rw[ht]at c12;have c13:=h.c13;have c3:=h.c3;have hlt:=h.lt;have fz:=h.fz;have hK:Xb (· =b) w (w.setCell ⟨b,12,none⟩ (.int .i64 (0:Nat))):=(Xb.refl _ w).setB 12 _;have h2:=h.wrote hK ((h.hd.timer 0).as {s with timer:=0} rfl) rfl rfl rfl rfl ⟨h.sok.state,h.sok.vs,h.sok.va,h.sok.vr,h.sok.vm,h.sok.q20,h.sok.q32,Nat.zero_le _,h.sok.tries,h.sok.came⟩;have u2:=h.upd hK;have htr:=h.sok.tries;have H2:=hide (And.intro h2 u2);clear h h2 u2 hK;have hge:¬((c.tri:Nat):Int)≤((s.tries:Nat):Int):=by omega
 go_enter Tryz.func62,Tryz.ntmps62
 go_wp2_with fail
 go_quiet (fail)
 have hV:=(Xa H2).1.drewN nq;have uV:=(Xa H2).2.trans (⟨(Xb.refl _ _).drewN nq,fun _ _=>rfl⟩:Upd i own own _ ((w.setCell ⟨b,12,none⟩ (.int .i64 (0:Nat))).drewN nq));clear H2 c21 c12 c13 c3 fz;have hgen:∀V,TAt V own i b c {s with timer:=0} false q cm o ev ce oe→Upd i own own w V→True:=fun _ _ _=>trivial
 clear hgen;go_upto_region 11 with fail
 obtain⟨V,hVV⟩:∃V,V=(w.setCell ⟨b,12,none⟩ (.int .i64 0)).drewN nq:=⟨_,rfl⟩;have hV:TAt V own i b c {s with timer:=0} false q cm o ev ce oe:=by rw[hVV];exact hV
 have uV:Upd i own own w V:=by rw[hVV];exact uV
 rw[← hVV];clear hVV;have c2:=hV.c2;have c6:=hV.c6;rw[hst]at c6;have c12:V.cell? ⟨b,12,none⟩=some (.int .i64 (0:Nat)):=hV.cell 12 rfl;have c13:=hV.c13;have c14:=hV.c14;have fz:=hV.fz;have hltV:=hV.lt;have hK:Xb (· =b) V (((V.setCell ⟨b,13,none⟩ (.int .i64 ((s.tries+1:Nat):Int))).setCell ⟨b,12,none⟩ (.int .i64 c.tim)).setCell ⟨b,14,none⟩ (.bool true)):=((((Xb.refl _ V).setB 13 _).setB 12 _).setB 14 _);have h3:=hV.wrote hK ((((hV.hd.tries (s.tries+1)).timer c.tim).Xh true).as {s with tries:=s.tries+1,timer:=c.tim,Xh:=true} rfl) rfl rfl rfl rfl ⟨hV.sok.state,hV.sok.vs,hV.sok.va,hV.sok.vr,hV.sok.vm,hV.sok.q20,hV.sok.q32,Nat.le_refl _,by show s.tries+1≤c.tri;omega,hV.sok.came⟩;have k3:=ZP h3 true true hl;skip
 have K3:=hide k3;have HU:=hide (uV.trans (hV.upd hK));have hf:((s.tries:Nat):Int)+1=((s.tries+1:Nat):Int):=by omega
 clear hV uV hK h3 k3 hr hge htr;generalize htr1:s.tries+1=tr1 at*;have HTR:=hide htr1;clear htr1;go_wp2_with fail
 refine(Xa K3).mono ?_;rintro e w5 ⟨rfl,own5,o5,oe5,h5,u5⟩;have HR:=hide (And.intro h5 ((Xa HU).trans u5));clear K3 h5 u5 HU c2 c6 c12 c13 c14 fz;go_wp2
 go_ret
 rw[Xa HTR];exact⟨rfl,_,⟨_,_,_,_,_,_,(Xa HR).1⟩,(Xa HR).2⟩
theorem Xiy (h:TAt w own i b c s cl q cm o ev ce oe):
  Calls Tryz.prog 41 #[.pointer (some ⟨b,0,none⟩)] w fun e w'=>if cl then e=.returned (.tuple #[.slice none 0 0,.int .i64 (8:Nat)])∧w'=w else e=.returned (.tuple #[o,.int .i64 (0:Nat)])∧TAt w' own i b c {s with out:=[]} cl q cm (.slice none 0 0) ev ce []∧Lst w' own (tg i 3) o oe s.out∧Xb (· =b) w w':=by
 have hlt:=h.lt;have c21:=h.c21;have cX:=h.c19;have fz:=h.fz;obtain⟨op,ocap,rfl,_,_⟩:=h.lo.slice;cases cl with
 |true=>
  clear h;go_enter Tryz.func41,Tryz.ntmps41
  go_wp2
  go_ret2
  exact⟨rfl,rfl⟩
 |false=>
  have H:=hide h;clear h;go_enter Tryz.func41,Tryz.ntmps41
  go_wp2
  go_ret2
  have h:=Xa H;have hK:Xb (· =b) w _:=(Xb.refl _ w).setB 19 (.slice none 0 0);exact⟨rfl,h.YL hK ((h.hd.lo _).as {s with out:=[]} rfl) h.lq XB.same XB.gone (.inl ⟨rfl,rfl⟩) (h.sok.out []),h.lo.keeps hK (fun k hk=>by rw[hk,h.ownb];exact Xz (by omega) (by omega) (.inr (by omega))) (fun _ _=>rfl),hK⟩
theorem Xiv (h:TAt w own i b c s cl q cm o ev ce oe):
  Calls Tryz.prog 49 #[.pointer (some ⟨b,0,none⟩)] w fun e w'=>if cl then e=.returned (.tuple #[.slice none 0 0,.int .i64 (8:Nat)])∧w'=w else e=.returned (.tuple #[ev,.int .i64 (0:Nat)])∧TAt w' own i b c {s with events:=[]} cl q cm o (.slice none 0 0) ce oe∧w'.ownsRow 0 3 1 ev s.events.length (s.events.map fun n=>.int .i64 (n:Nat))∧Xb (· =b) w w':=by
 have hlt:=h.lt;have c21:=h.c21;have cX:=h.c20;have fz:=h.fz;obtain⟨op,ocap,rfl⟩:=Yk h.lev;cases cl with
 |true=>
  clear h;go_enter Tryz.func49,Tryz.ntmps49
  go_wp2
  go_ret2
  exact⟨rfl,rfl⟩
 |false=>
  have H:=hide h;clear h;go_enter Tryz.func49,Tryz.ntmps49
  go_wp2
  go_ret2
  have h:=Xa H;have hK:Xb (· =b) w _:=(Xb.refl _ w).setB 20 (.slice none 0 0);exact⟨rfl,h.YL hK ((h.hd.lev _).as {s with events:=[]} rfl) h.lq XB.same XB.same (.inr ⟨rfl,rfl⟩) (h.sok.events []),Xc h.lev hK (fun k hb hX=>by have:=h.owne k hb;rw[hX,h.ownb]at this;exact Xz (by omega) (by omega) (.inr (by omega)) this),hK⟩
end
end Go.Proofs.YtkalonhalhdlaaaGreatDoor
