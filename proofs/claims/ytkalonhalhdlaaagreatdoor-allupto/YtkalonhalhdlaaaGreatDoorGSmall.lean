import Derived.Test.YtkalonhalhdlaaaGreatDoorG10
set_option maxHeartbeats 4000000
set_option maxRecDepth 100000
namespace Go.Proofs.YtkalonhalhdlaaaGreatDoor
open Go.RowKit
theorem JW (k:Int)(w:World):Calls Tryz.prog 78 #[.int .i64 k] w fun e w'=>e=.returned (.bool (X9 k))∧w'=w:=by
 by_cases h1:k=1
 ·subst h1;go_enter Tryz.func78,Tryz.ntmps78
  go_wp2
  go_ret
  exact⟨rfl,rfl⟩
 ·go_enter Tryz.func78,Tryz.ntmps78
  go_wp2
  go_ret
  exact⟨Xr (by simp[X9,h1]),rfl⟩
theorem Qs (k:Int)(w:World):Calls Tryz.prog 79 #[.int .i64 k] w fun e w'=>e=.returned (.bool (XJ k))∧w'=w:=by
 by_cases h1:1≤k
 ·by_cases h2:k≤4
  ·go_enter Tryz.func79,Tryz.ntmps79
   go_wp2
   go_ret
   exact⟨Xr (by simp[XJ,h1,h2]),rfl⟩
  ·go_enter Tryz.func79,Tryz.ntmps79
   go_wp2
   go_ret
   exact⟨Xr (by simp[XJ,h1,h2]),rfl⟩
 ·go_enter Tryz.func79,Tryz.ntmps79
  go_wp2
  go_ret
  exact⟨Xr (by simp[XJ];omega),rfl⟩
theorem Zq (m n:Int)(has:Bool)(w:World):Calls Tryz.prog 80 #[.int .i64 m,.int .i64 n,.bool has] w fun e w'=>e=.returned (.bool (XX m n has))∧w'=w:=by
 cases has
 ·go_enter Tryz.func80,Tryz.ntmps80
  go_wp2
  go_ret
  exact⟨Xr (by by_cases h:n=0 <;> simp[XX,h]),rfl⟩
 ·by_cases h1:0≤n
  ·go_enter Tryz.func80,Tryz.ntmps80
   go_wp2
   go_ret
   exact⟨Xr (by simp[XX,h1]),rfl⟩
  ·go_enter Tryz.func80,Tryz.ntmps80
   go_wp2
   go_ret
   exact⟨Xr (by simp[XX];omega),rfl⟩
theorem Xa1 (m k n:Int)(w:World):Calls Tryz.prog 81 #[.int .i64 m,.int .i64 k,.int .i64 n] w fun e w'=>e=.returned (.bool (Yc m k n))∧w'=w:=by
 by_cases h1:k=1
 ·subst h1;go_enter Tryz.func81,Tryz.ntmps81
  go_wp2
  go_ret
  exact⟨Xr (by simp[Yc]),rfl⟩
 ·by_cases h9:k=9
  ·subst h9;by_cases h8:m=8
   ·subst h8;go_enter Tryz.func81,Tryz.ntmps81
    go_wp2
    go_ret
    exact⟨Xr (by unfold Yc;rw[if_neg (by omega),if_pos rfl];rfl),rfl⟩
   ·go_enter Tryz.func81,Tryz.ntmps81
    go_wp2
    go_ret
    exact⟨Xr (by unfold Yc JE;rw[if_neg (by omega),if_pos rfl,if_neg h8]),rfl⟩
  ·go_enter Tryz.func81,Tryz.ntmps81
   go_wp2
   go_ret
   exact⟨Xr (by unfold Yc;rw[if_neg h1,if_neg h9]),rfl⟩
theorem Xbl (m k:Nat)(hk:k≤9)(w:World):Calls Tryz.prog 82 #[.int .i64 m,.int .i64 k] w fun e w'=>e=.returned (.int .i64 (Xv m k:Nat))∧Below w.heap.size w w':=by
 have hcases:k=0∨k=1∨k=2∨k=3∨k=4∨k=5∨k=6∨k=7∨k=8∨k=9:=by omega
 by_cases h1:m=128
 ·subst h1;rcases hcases with rfl|rfl|rfl|rfl|rfl|rfl|rfl|rfl|rfl|rfl
  all_goals
   go_enter Tryz.func82,Tryz.ntmps82
   go_wp2
   go_ret
   first|exact⟨rfl,(Below.refl _ w).alloc (Nat.le_refl _) _⟩|exact⟨rfl,Below.refl _ w⟩
 ·have h1':¬(m:Int)=128:=by omega
  have hb:∀k,Xv m k=Xa5.getD k 0:=fun k=>by simp[Xv,h1]
  rw[hb];rcases hcases with rfl|rfl|rfl|rfl|rfl|rfl|rfl|rfl|rfl|rfl
  all_goals
   go_enter Tryz.func82,Tryz.ntmps82
   go_wp2
   go_ret
   exact⟨rfl,(Below.refl _ w).alloc (Nat.le_refl _) _⟩
def Xav (m c k:Nat):Bool:=if 4<k then decide (c=Xv m k)||decide (c=Xv m k+16)else if m=128 then decide (c=Xv m k)else decide (c%16=Xv m k)
theorem Xpv:∀(c:Fin 256) (k:Fin 10),2≤k.val→Xav 8 c.val k.val=decide (c.val &&& maskN 8 k.val=Xv 8 k.val):=by decide +kernel
theorem XoK:∀(c:Fin 256) (k:Fin 10),2≤k.val→Xav 128 c.val k.val=decide (c.val &&& maskN 128 k.val=Xv 128 k.val):=by decide +kernel
theorem XoL {m c k:Nat}(hm:m=8∨m=128)(hc:c<256)(h2:2≤k)(h9:k≤9):Xav m c k=decide (c &&& maskN m k=Xv m k):=by
 rcases hm with rfl|rfl
 ·exact Xpv ⟨c,hc⟩ ⟨k,by omega⟩ h2
 ·exact XoK ⟨c,hc⟩ ⟨k,by omega⟩ h2
def XnO (o:Option Nat):Nat:=o.getD 0
theorem XfH (m c:Nat)(hm:m=8∨m=128)(hc:c<256)(w:World):Calls Tryz.prog 86 #[.int .i64 m,.int .i64 c] w fun e w'=>e=.returned (.int .i64 (XnO (XE m c 1 9):Nat))∧Below w.heap.size w w':=by
 by_cases h0:c%2=0
 ·have h0i:((c:Int))%2=0:=by omega
  rw[Xew m c h0];go_enter Tryz.func86,Tryz.ntmps86
  go_wp2
  go_ret
  exact⟨rfl,Below.refl _ w⟩
 ·have h0i:((c:Int)%2==0)=false:=by simp;omega
  have hk1:XE m c 1 9=XE m c 2 8:=by
   have e:¬c &&& maskN m 1=Xv m 1:=by simp[maskN,Xv,Xa5];omega
   rw[XE,if_neg e]
  rw[hk1];clear hk1;go_enter Tryz.func86,Tryz.ntmps86
  go_wp2
  go_loopw [5] (fun i wr=>∃k:Nat,2≤k∧k≤10∧i=.int .i64 k∧Below w.heap.size w wr∧XE m c k (10-k)=XE m c 2 8) (fun i _=>10 -(intOf i).toNat)
  case atStart=>exact⟨2,by omega,by omega,rfl,Below.refl _ _,rfl⟩
  case round=>
   obtain⟨k,hk2,hk10,rfl,hbw,hkf⟩:=hrel;have hbz:=hbw.size;by_cases hk9:k≤9
   ·have q1:=Xbl m k hk9 wr;have q2:=fun w=>Qs k w
    have e10:10-k=(10 -(k+1))+1:=by omega
    have hh:=XoL hm hc hk2 hk9
    have hkf2:(if Xav m c k=true then some k else XE m c (k+1) (10 -(k+1)))=XE m c 2 8:=by
     rw[← hkf,e10,XE,hh];simp
    have HQ1:=hide q1;have HK:=hide hkf2;have hbl:=Xf0 m k;have hhd:Xav m c k=if 4<k then decide (c=Xv m k)||decide (c=Xv m k+16)else if m=128 then decide (c=Xv m k)else decide (c%16=Xv m k):=rfl
    clear q1 hkf hkf2 hh;go_wp2_with fail
    refine(Xa HQ1).mono ?_;rintro e W1 ⟨rfl,hb1⟩;clear HQ1;generalize Xv m k=bs at hhd hbl;have hbw1:=hbw.trans (hb1.mono hbz);go_wp2_with fail
    refine(q2 _).mono ?_;rintro e W2 ⟨rfl,rfl⟩;by_cases h4:4<k
    ·have hr:XJ k=false:=by simp[XJ];omega
     rw[hr];rw[if_pos h4]at hhd;by_cases e1:c=bs
     ·have hc1:Xav m c k=true:=by rw[hhd];simp[e1]
      have HK':=Xa HK;rw[hc1,if_pos rfl]at HK';subst e1;go_wp2
      go_ret
      rw[← HK'];exact⟨rfl,hbw1⟩
     ·by_cases e2:c=bs+16
      ·have hc1:Xav m c k=true:=by rw[hhd];simp[e2]
       have HK':=Xa HK;rw[hc1,if_pos rfl]at HK';have e1i:¬(c:Int)=(bs:Int):=by omega
       have e2i:(c:Int)=(bs:Int)+16:=by omega
       have HK2:=hide HK';clear HK' HK;go_wp2
       go_ret
       rw[← Xa HK2];exact⟨rfl,hbw1⟩
      ·have hc1:Xav m c k=false:=by rw[hhd];simp[e1,e2]
       have HK':=Xa HK;rw[hc1,if_neg (by simp)]at HK';have e1i:((c:Int)==(bs:Int))=false:=by simp;omega
       have e2i:((c:Int)==(bs:Int)+16)=false:=by simp;omega
       have HK2:=hide HK';clear HK' HK;go_wp2
       go_roundw
       case rel=>exact⟨k+1,by omega,by omega,by go_num,hbw1,Xa HK2⟩
       case measure=>simp[intOf];omega
    ·have hr:XJ k=true:=by simp[XJ];omega
     rw[hr];rw[if_neg h4]at hhd;rcases hm with hm8|hm8
     ·have hmi:((m:Int)==128)=false:=by simp;omega
      rw[if_neg (by omega)]at hhd;clear hm8;by_cases e1:c%16=bs
      ·have hc1:Xav m c k=true:=by rw[hhd];simp[e1]
       have HK':=Xa HK;rw[hc1,if_pos rfl]at HK';have e1i:((c:Int)%16==(bs:Int))=true:=by simp;omega
       have HK2:=hide HK';clear HK' HK;go_wp2
       go_ret
       rw[← Xa HK2];exact⟨rfl,hbw1⟩
      ·have hc1:Xav m c k=false:=by rw[hhd];simp[e1]
       have HK':=Xa HK;rw[hc1,if_neg (by simp)]at HK';have e1i:((c:Int)%16==(bs:Int))=false:=by simp;omega
       have HK2:=hide HK';clear HK' HK;go_wp2
       go_roundw
       case rel=>exact⟨k+1,by omega,by omega,by go_num,hbw1,Xa HK2⟩
       case measure=>simp[intOf];omega
     ·have hmi:((m:Int)==128)=true:=by simp;omega
      rw[if_pos hm8]at hhd;clear hm8;by_cases e1:c=bs
      ·have hc1:Xav m c k=true:=by rw[hhd];simp[e1]
       have HK':=Xa HK;rw[hc1,if_pos rfl]at HK';have e1i:((c:Int)==(bs:Int))=true:=by simp;omega
       have HK2:=hide HK';clear HK' HK;go_wp2
       go_ret
       rw[← Xa HK2];exact⟨rfl,hbw1⟩
      ·have hc1:Xav m c k=false:=by rw[hhd];simp[e1]
       have HK':=Xa HK;rw[hc1,if_neg (by simp)]at HK';have e1i:((c:Int)==(bs:Int))=false:=by simp;omega
       have HK2:=hide HK';clear HK' HK;go_wp2
       go_roundw
       case rel=>exact⟨k+1,by omega,by omega,by go_num,hbw1,Xa HK2⟩
       case measure=>simp[intOf];omega
   ·obtain rfl:k=10:=by omega
    have HK:=hide hkf;clear hkf;go_wp2
    go_ret
    rw[← Xa HK];exact⟨rfl,hbw⟩
end Go.Proofs.YtkalonhalhdlaaaGreatDoor
