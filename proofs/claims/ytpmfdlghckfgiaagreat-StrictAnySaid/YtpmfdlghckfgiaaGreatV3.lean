/- The document's Place, Default and one of -/
import Derived.Test.YtpmfdlghckfgiaaGreatV2
import Derived.Test.YtpmfdlghckfgiaaGreatUt
set_option linter.unusedVariables false
set_option maxRecDepth 100000
set_option maxHeartbeats 16000000
namespace Go.Proofs.YtpmfdlghckfgiaaGreat
open Go.RowKit
theorem bw_d' {a b:World} {B:Nat} (h:Below B a b) (n:Nat):Below B a (b.drewN n):=⟨h.os,h.tape,h.output,h.size,h.block⟩
def plN (m:MV) (t i:Int):Nat:=if 1<=t/\t<=6 then m.num i else 0
def plS (m:MV) (t i:Int):ByteArray:=if 7<=t/\t<=9 then m.text i else ⟨#[]⟩
def plV (m:MV) (t:Int):Value:=if t=10 then .slice m.A m.l.length m.c else .slice none 0 0
theorem pl_num (m:MV) (t i:Int) (h:1<=t/\t<=6):plN m t i=m.num i/\plS m t i=⟨#[]⟩/\plV m t=.slice none 0 0:=by
 unfold plN plS plV;rw [if_pos h,if_neg (by omega),if_neg (by omega)];exact ⟨rfl,rfl,rfl⟩
theorem pl_text (m:MV) (t i:Int) (h:7<=t/\t<=9):plN m t i=0/\plS m t i=m.text i/\plV m t=.slice none 0 0:=by
 unfold plN plS plV;rw [if_neg (by omega),if_pos h,if_neg (by omega)];exact ⟨rfl,rfl,rfl⟩
theorem pl_list (m:MV) (i:Int):plN m 10 i=0/\plS m 10 i=⟨#[]⟩/\plV m 10=.slice m.A m.l.length m.c:=by
 unfold plN plS plV;rw [if_neg (by omega),if_neg (by omega),if_pos rfl];exact ⟨rfl,rfl,rfl⟩
theorem pl_out (m:MV) (t i:Int) (h:t < 1\/10 < t):plN m t i=0/\plS m t i=⟨#[]⟩/\plV m t=.slice none 0 0:=by
 unfold plN plS plV;rw [if_neg (by omega),if_neg (by omega),if_neg (by omega)];exact ⟨rfl,rfl,rfl⟩
theorem rplace_any (m:MV) (num t i:Int) (w:World):Calls Tryz.prog 42 #[mvV m,.agg #[.int .i64 num,.int .i64 t,.int .i64 i]] w fun e w'=>e=.returned (.tuple #[.int .u64 (plN m t i:Nat),.string (plS m t i),plV m t])/\Below w.heap.size w w':=by
 have hpn:=pl_num m t i
 have hpt:=pl_text m t i
 have hpl:=pl_list m i
 have hpo:=pl_out m t i
 have hno:=num_out m i
 have hto:=text_out m i
 unfold mvV mvA at *
 generalize hlen:m.l.length=len at *
 obtain ⟨s,hws⟩:∃ s,w.heap.size=s:=⟨_,rfl⟩
 have HBX:=hid (bx2 w s len m num t i hws)
 rw [hws]
 have hcase:(1<=t/\t<=6)\/(7<=t/\t<=9)\/t=10\/(t < 1\/10 < t):=by omega
 rcases hcase with h | h | rfl | h
 ·obtain ⟨p1,p2,p3⟩:=hpn h
  rw [p1,p2,p3]
  obtain ⟨hA,hB⟩:=h
  have n10:(t == 10)=false:=by simp;omega
  clear hpn hpt hpl hpo p1 p2 p3
  have hi:i < 0\/6<=i\/i=0\/i=1\/i=2\/i=3\/i=4\/i=5:=by omega
  rcases hi with hi | hi | rfl | rfl | rfl | rfl | rfl | rfl
  ·have hz:=hno (by omega)
   rw [hz]
   clear hz hno hto
   go_enter Tryz.func42,Tryz.ntmps42
   go_wp2_with fail
   go_ret3
   exact ⟨rfl,HBX.out.bel⟩
  ·have hz:=hno (by omega)
   rw [hz]
   clear hz hno hto
   go_enter Tryz.func42,Tryz.ntmps42
   go_wp2_with fail
   go_ret3
   exact ⟨rfl,HBX.out.bel⟩
  ·clear hno hto
   go_enter Tryz.func42,Tryz.ntmps42
   go_wp2_with fail
   go_ret3
   exact ⟨rfl,HBX.out.bel⟩
  ·clear hno hto
   go_enter Tryz.func42,Tryz.ntmps42
   go_wp2_with fail
   go_ret3
   exact ⟨rfl,HBX.out.bel⟩
  ·clear hno hto
   go_enter Tryz.func42,Tryz.ntmps42
   go_wp2_with fail
   go_ret3
   exact ⟨rfl,HBX.out.bel⟩
  ·clear hno hto
   go_enter Tryz.func42,Tryz.ntmps42
   go_wp2_with fail
   go_ret3
   exact ⟨rfl,HBX.out.bel⟩
  ·clear hno hto
   go_enter Tryz.func42,Tryz.ntmps42
   go_wp2_with fail
   go_ret3
   exact ⟨rfl,HBX.out.bel⟩
  ·clear hno hto
   go_enter Tryz.func42,Tryz.ntmps42
   go_wp2_with fail
   go_ret3
   exact ⟨rfl,HBX.out.bel⟩
 ·obtain ⟨p1,p2,p3⟩:=hpt h
  rw [p1,p2,p3]
  obtain ⟨hA,hB⟩:=h
  have n10:(t == 10)=false:=by simp;omega
  clear hpn hpt hpl hpo p1 p2 p3
  have hi:i < 0\/2<=i\/i=0\/i=1:=by omega
  rcases hi with hi | hi | rfl | rfl
  ·have hz:=hto (by omega)
   rw [hz]
   clear hz hno hto
   go_enter Tryz.func42,Tryz.ntmps42
   go_wp2_with fail
   go_ret3
   exact ⟨rfl,HBX.out.bel⟩
  ·have hz:=hto (by omega)
   rw [hz]
   clear hz hno hto
   go_enter Tryz.func42,Tryz.ntmps42
   go_wp2_with fail
   go_ret3
   exact ⟨rfl,HBX.out.bel⟩
  ·clear hno hto
   go_enter Tryz.func42,Tryz.ntmps42
   go_wp2_with fail
   go_quiet (fail)
   go_wp2_with fail
   go_ret3
   exact ⟨rfl,bw_d' HBX.out.bel nq⟩
  ·clear hno hto
   go_enter Tryz.func42,Tryz.ntmps42
   go_wp2_with fail
   go_quiet (fail)
   go_wp2_with fail
   go_ret3
   exact ⟨rfl,bw_d' HBX.out.bel nq⟩
 ·obtain ⟨p1,p2,p3⟩:=hpl
  rw [p1,p2,p3]
  clear hpn hpt hpo p1 p2 p3 hno hto
  go_enter Tryz.func42,Tryz.ntmps42
  go_wp2_with fail
  go_quiet (fail)
  go_wp2_with fail
  go_ret3
  exact ⟨rfl,bw_d' HBX.out.bel nq⟩
 ·obtain ⟨p1,p2,p3⟩:=hpo h
  rw [p1,p2,p3]
  have n10:(t == 10)=false:=by simp;omega
  clear hpn hpt hpl hpo p1 p2 p3 hno hto
  rcases h with h | h
  ·go_enter Tryz.func42,Tryz.ntmps42
   go_wp2_with fail
   go_ret3
   exact ⟨rfl,HBX.out.bel⟩
  ·go_enter Tryz.func42,Tryz.ntmps42
   go_wp2_with fail
   go_ret3
   exact ⟨rfl,HBX.out.bel⟩
end Go.Proofs.YtpmfdlghckfgiaaGreat
namespace Go.Proofs.YtpmfdlghckfgiaaGreat
open Go.RowKit
theorem pl_view (m:MV) (t i:Int):∃ A n c,plV m t=.slice A n c/\dflB m t i=(decide (plN m t i=0) && decide (plS m t i=⟨#[]⟩) && decide (n=0))/\(A=none->t=10->m.A=none):=by
 have hcase:(1<=t/\t<=6)\/(7<=t/\t<=9)\/t=10\/(t < 1\/10 < t):=by omega
 rcases hcase with h | h | rfl | h
 ·obtain ⟨p1,p2,p3⟩:=pl_num m t i h
  rw [p1,p2,p3,dfl_num m t i h]
  exact ⟨none,0,0,rfl,by simp,fun _ h2=>by omega⟩
 ·obtain ⟨p1,p2,p3⟩:=pl_text m t i h
  rw [p1,p2,p3,dfl_text m t i h]
  exact ⟨none,0,0,rfl,by simp,fun _ h2=>by omega⟩
 ·obtain ⟨p1,p2,p3⟩:=pl_list m i
  rw [p1,p2,p3,dfl_list m i]
  exact ⟨_,_,_,rfl,by simp,fun h _=>h⟩
 ·obtain ⟨p1,p2,p3⟩:=pl_out m t i h
  rw [p1,p2,p3,dfl_out m t i h]
  exact ⟨none,0,0,rfl,by simp,fun _ h2=>by omega⟩
theorem rdef_any (m:MV) (num t i:Int) (w:World):Calls Tryz.prog 41 #[mvV m,.agg #[.int .i64 num,.int .i64 t,.int .i64 i]] w fun e w'=>e=.returned (.bool (dflB m t i))/\Below w.heap.size w w':=by
 have hp:=fun W=>rplace_any m num t i W
 obtain ⟨A,n,c,hv,hd,-⟩:=pl_view m t i
 rw [hd]
 rw [hv] at hp
 clear hd hv
 generalize plN m t i=x at *
 generalize plS m t i=y at *
 unfold mvV mvA at *
 generalize m.l.length=len at *
 obtain ⟨s,hws⟩:∃ s,w.heap.size=s:=⟨_,rfl⟩
 have HBX:=hid (bx2 w s len m num t i hws)
 rw [hws]
 have HP:=hid hp
 clear hp
 by_cases hx:x=0
 ·subst hx
  by_cases hy:y=⟨#[]⟩
  ·subst hy
   by_cases hn:n=0
   ·subst hn
    go_enter Tryz.func41,Tryz.ntmps41
    go_wp2_with fail
    refine (HP.out _).mono ?_
    rintro e w1 ⟨rfl,hb1⟩
    have HB1:=hid (HBX.out.bel.trans (hb1.mono (by have:=HBX.out.z;omega)))
    clear hb1
    go_wp2_with fail
    go_ret
    exact ⟨rfl,HB1.out⟩
   ·have hnb:((n:Int) == 0)=false:=by simp;omega
    have hd:(decide ((0:Nat)=0) && decide ((⟨#[]⟩:ByteArray)=⟨#[]⟩) && decide (n=0))=false:=by simp [hn]
    rw [hd]
    clear hd
    have HN:=hid hn
    clear hn
    go_enter Tryz.func41,Tryz.ntmps41
    go_wp2_with fail
    refine (HP.out _).mono ?_
    rintro e w1 ⟨rfl,hb1⟩
    have HB1:=hid (HBX.out.bel.trans (hb1.mono (by have:=HBX.out.z;omega)))
    clear hb1
    go_wp2_with fail
    go_ret
    exact ⟨rfl,HB1.out⟩
  ·have hd:(decide ((0:Nat)=0) && decide (y=⟨#[]⟩) && decide (n=0))=false:=by simp [hy]
   have hx1:¬ y.toList=[]:=fun h=>hy ((bytes_nil y).2 h)
   have hx2:(y.toList == [])=false:=by simpa using hx1
   have hx3:y.toList.isEmpty=false:=by simpa using hx1
   have hx4:(!y.toList.isEmpty)=true:=by simpa using hx1
   rw [hd]
   clear hd
   have HY:=hid hy
   clear hy
   go_enter Tryz.func41,Tryz.ntmps41
   go_wp2_with fail
   refine (HP.out _).mono ?_
   rintro e w1 ⟨rfl,hb1⟩
   have HB1:=hid (HBX.out.bel.trans (hb1.mono (by have:=HBX.out.z;omega)))
   clear hb1
   go_wp2_with fail
   go_ret
   exact ⟨rfl,HB1.out⟩
 ·have hxb:((x:Int) == 0)=false:=by simp;omega
  have hd:(decide (x=0) && decide (y=⟨#[]⟩) && decide (n=0))=false:=by simp [hx]
  rw [hd]
  clear hd
  have HX:=hid hx
  clear hx
  go_enter Tryz.func41,Tryz.ntmps41
  go_wp2_with fail
  refine (HP.out _).mono ?_
  rintro e w1 ⟨rfl,hb1⟩
  have HB1:=hid (HBX.out.bel.trans (hb1.mono (by have:=HBX.out.z;omega)))
  clear hb1
  go_wp2_with fail
  go_ret
  exact ⟨rfl,HB1.out⟩
theorem rtexts_any (l l2:List ByteArray) (n n2:Nat) (A A2:Option Addr) (c c2:Nat) (w:World) (hn:l.length=n) (hn2:l2.length=n2) (hs:Sl w A c (l.map sv)) (hs2:Sl w A2 c2 (l2.map sv)) :
  Calls Tryz.prog 17 #[.slice A n c,.slice A2 n2 c2] w fun e w'=>e=.returned (.bool (decide (l=l2)))/\∃ q,w'=w.drewN q:=by
 have hc1:n<=9223372036854775807:=by have g1:=hs.cap;have g2:=hs.small;rw [List.length_map] at g1;omega
 have hc2:n2<=9223372036854775807:=by have g1:=hs2.cap;have g2:=hs2.small;rw [List.length_map] at g1;omega
 obtain ⟨R,hR⟩:∃ R,decide (l=l2)=R:=⟨_,rfl⟩
 rw [hR]
 have HR:=hid hR
 have HN:=hid hn
 have HN2:=hid hn2
 have HS:=hid hs
 have HS2:=hid hs2
 clear hR hn hn2 hs hs2
 by_cases hne:n=n2
 ·subst hne
  go_enter Tryz.func17,Tryz.ntmps17
  go_wp2_with fail
  go_loopw [5] (fun i wr=>∃ (j q:Nat),j<=n/\i=.int .i64 (j:Int)/\l.take j=l2.take j/\wr=w.drewN q) (fun i _=>n - (intOf i).toNat)
  case atStart=>exact ⟨0,0,by omega,rfl,rfl,rfl⟩
  case round =>
   obtain ⟨j,q,hj,rfl,heq,rfl⟩:=hrel
   by_cases hlt:j < n
   ·have hj1:j < l.length:=by have:=HN.out;omega
    have hj2:j < l2.length:=by have:=HN2.out;omega
    obtain ⟨b,off,rfl,hbw,t0⟩:=HS.out.rd j (sv l[j]) (by simp [hj1])
    obtain ⟨d,of2,rfl,hdw,t1⟩:=HS2.out.rd j (sv l2[j]) (by simp [hj2])
    have hnx:=take_next hj1 hj2 heq
    have hno:¬ l[j]=l2[j]->l ≠ l2:=fun h e=>by subst e;exact h rfl
    have hji:(j:Int) < (n:Int):=by omega
    have hj0:(0:Int)<=(j:Int):=by omega
    unfold sv at t0 t1
    generalize l[j]=x at *
    generalize l2[j]=y at *
    have HNX:=hid hnx
    have HNO:=hid hno
    clear hnx hno heq
    by_cases hxy:x=y
    ·subst hxy
     have HX:=hid (HNX.out rfl)
     clear HNX HNO
     go_wp2_with fail
     go_quiet (fail)
     go_wp2_with fail
     exact ⟨⟨j+1,q+nq,by omega,by go_num,HX.out,rfl⟩,by simp [intOf] <;> omega⟩
    ·have heb:=bstr_ne' hxy
     have HX:=hid (HNO.out hxy)
     clear HNX HNO hxy
     go_wp2_with fail
     go_quiet (fail)
     go_wp2_with fail
     go_ret
     exact ⟨by rw [<-HR.out,decide_eq_false HX.out];rfl,q+nq,World.drewN_drewN _ _ _⟩
   ·obtain rfl:j=n:=by omega
    have hll:l=l2:=by
     have h1:=heq
     rwa [List.take_of_length_le (by have:=HN.out;omega),List.take_of_length_le (by have:=HN2.out;omega)] at h1
    have HX:=hid hll
    clear hll heq
    go_wp2_with fail
    go_ret
    exact ⟨by rw [<-HR.out,decide_eq_true HX.out];rfl,_,rfl⟩
 ·have hneb:((n:Int) != (n2:Int))=true:=by simp;omega
  have hX:l ≠ l2:=fun e=>hne (by rw [<-HN.out,<-HN2.out,e])
  have HX:=hid hX
  clear hX
  go_enter Tryz.func17,Tryz.ntmps17
  go_wp2_with fail
  go_ret
  exact ⟨by rw [<-HR.out,decide_eq_false HX.out];rfl,0,rfl⟩
theorem chk_nil (most:Int) (h:0<=most):chk ⟨#[]⟩ most=0:=by
 have h2:¬ most < 0:=by omega
 unfold chk checkI
 simp [scan_nil,h2]
theorem fldE_eq (m:MV) (r:SRow):fldE m r=wrongE m (r.typ:Nat) (r.slot:Nat):=by
 unfold fldE
 generalize (r.slot:Int)=i
 generalize (r.typ:Int)=t
 by_cases hd:dflB m t i=true
 ·rw [if_pos hd]
  have hcase:(1<=t/\t<=6)\/(7<=t/\t<=9)\/t=10\/(t < 1\/10 < t):=by omega
  rcases hcase with h | h | rfl | h
  ·rw [dfl_num m t i h] at hd
   have hx:m.num i=0:=by simpa using hd
   by_cases h1:t=1\/t=5
   ·rw [wr_num m t i h1,hx];rfl
   ·by_cases h4:t=4
    ·subst h4;rw [wr_bool,hx];rfl
    ·rw [wr_out m t i (by omega)]
  ·rw [dfl_text m t i h] at hd
   have hx:m.text i=⟨#[]⟩:=by simpa using hd
   rw [wr_text m t i h,hx,chk_nil _ (by omega)]
  ·rw [dfl_list m i] at hd
   have hx:m.l.length=0:=by simpa using hd
   rw [wr_list,List.eq_nil_of_length_eq_zero hx];rfl
  ·rw [wr_out m t i (by omega)]
 ·rw [if_neg hd]
end Go.Proofs.YtpmfdlghckfgiaaGreat
namespace Go.Proofs.YtpmfdlghckfgiaaGreat
open Go.RowKit
theorem rsame9_any (a b:MV) (w:World) (ha:Sl w a.A a.c (a.l.map sv)) (hb:Sl w b.A b.c (b.l.map sv)):Calls Tryz.prog 8 #[mvV a,mvV b] w fun e w'=>e=.returned (.bool (sameB a b))/\Below w.heap.size w w':=by
 have hq:=fun (W:World) (hW:Below w.heap.size w W)=>rtexts_any a.l b.l a.l.length b.l.length a.A b.A a.c b.c W rfl rfl (ha.below hW) (hb.below hW)
 have hen:=fun (W:World)=>eq_nums a.n0 a.n1 a.n2 a.n3 a.n4 a.n5 b.n0 b.n1 b.n2 b.n3 b.n4 b.n5 W
 have het:=fun (W:World)=>eq_texts a.s0 a.s1 b.s0 b.s1 W
 have hen':∀ W,_=Result.ok (Value.bool (decide (sameN a b))) W:=hen
 have het':∀ W,_=Result.ok (Value.bool (decide (sameT a b))) W:=het
 have hS:sameB a b=(decide (a.k=b.k) && decide (sameN a b) && decide (sameT a b) && decide (a.l=b.l)):=rfl
 have hbb:=fun (la lb:Nat)=>bw_a (bw_a (Below.refl _ w) (.cells #[.int .u8 (a.k:Int),.int .u64 (a.n0:Int),.int .u64 (a.n1:Int),.int .u64 (a.n2:Int),.int .u64 (a.n3:Int),.int .u64 (a.n4:Int),.int .u64 (a.n5:Int),.string a.s0,.string a.s1,.slice a.A la a.c] 29)) (.cells #[.int .u8 (b.k:Int),.int .u64 (b.n0:Int),.int .u64 (b.n1:Int),.int .u64 (b.n2:Int),.int .u64 (b.n3:Int),.int .u64 (b.n4:Int),.int .u64 (b.n5:Int),.string b.s0,.string b.s1,.slice b.A lb b.c] 29)
 clear hen het ha hb
 generalize sameB a b=R at *
 generalize hdn:decide (sameN a b)=dn at *
 generalize hdt:decide (sameT a b)=dt at *
 generalize hdl:decide (a.l=b.l)=dl at *
 unfold mvV mvA
 generalize a.l.length=la at *
 generalize b.l.length=lb at *
 clear hdn hdt hdl
 have HS:=hid hS
 have HQ:=hid hq
 have HBB:=hid (hbb la lb)
 clear hS hq hbb
 by_cases hk:a.k=b.k
 ·have hkb:((a.k:Int) == (b.k:Int))=true:=by simp [hk]
  have hkd:decide (a.k=b.k)=true:=by simp [hk]
  rw [hkd] at HS
  clear hkd
  have HK:=hid hk
  clear hk
  cases dn with
  | false =>
   have HS2:=hid (show R=false from by rw [HS.out];rfl)
   go_enter Tryz.func8,Tryz.ntmps8
   go_wp2_with fail
   go_ret
   exact ⟨by rw [HS2.out];rfl,HBB.out⟩
  | true =>
   cases dt with
   | false =>
    have HS2:=hid (show R=false from by rw [HS.out];rfl)
    go_enter Tryz.func8,Tryz.ntmps8
    go_wp2_with fail
    go_ret
    exact ⟨by rw [HS2.out];rfl,HBB.out⟩
   | true =>
    have HS2:=hid (show R=dl from by rw [HS.out];rfl)
    go_enter Tryz.func8,Tryz.ntmps8
    go_wp2_with fail
    refine (HQ.out _ HBB.out).mono ?_
    rintro e w1 ⟨rfl,q,rfl⟩
    go_wp2_with fail
    go_ret
    exact ⟨by rw [HS2.out];rfl,bw_d HBB.out q⟩
 ·have hkb:((a.k:Int) == (b.k:Int))=false:=by simp;omega
  have hkd:decide (a.k=b.k)=false:=by simpa using hk
  rw [hkd] at HS
  have HS2:=hid (show R=false from by rw [HS.out];rfl)
  clear hkd
  have HK:=hid hk
  clear hk
  go_enter Tryz.func8,Tryz.ntmps8
  go_wp2_with fail
  go_ret
  exact ⟨by rw [HS2.out];rfl,HBB.out⟩
theorem rmostI (t:Int) (w:World):Calls Tryz.prog 38 #[.int .i64 t] w fun e w'=>e=.returned (.int .i64 (mostN t:Nat))/\w'=w:=rmost_any t w
theorem rone9_any (m:MV) (num t i:Int) (w:World) (hok:MvOk w m):Calls Tryz.prog 39 #[mvV m,.agg #[.int .i64 num,.int .i64 t,.int .i64 i]] w fun e w'=>e=.returned (.int .i64 (wrongE m t i))/\Below w.heap.size w w':=by
 have hp:=fun W=>rplace_any m num t i W
 have hck:=fun W=>rchk_any (m.text i) (mostN t:Nat) W (hok.s i) (by omega) (by have:=mostN_le t;omega)
 have hcl:=fun (x:ByteArray) (hx:x ∈ m.l) W=>rchk_any x 64 W (hok.e x hx) (by omega) (by omega)
 have hmo:=fun W=>rmostI t W
 have h1:=wr_num m t i
 have h4:=wr_bool m i
 have h7:=wr_text m t i
 have h10:=wr_list m i
 have h0:=wr_out m t i
 have p1:=pl_num m t i
 have p7:=pl_text m t i
 have p10:=pl_list m i
 have p0:=pl_out m t i
 have hsl:=hok.l
 have hls:lstE m.l=if 64 < m.l.length then 2 else txtE 64 m.l:=rfl
 have hmq:=mostN_le t
 clear hok
 obtain ⟨len,hlen⟩:∃ n,m.l.length=n:=⟨_,rfl⟩
 unfold mvV mvA at *
 rw [hlen] at p10 hls hp
 rw [hlen]
 generalize lstE m.l=le at *
 obtain ⟨s,hws⟩:∃ s,w.heap.size=s:=⟨_,rfl⟩
 have HBX:=hid (bx2 w s len m num t i hws)
 have hsl2:=fun W (hW:Below w.heap.size w W)=>hsl.below hW
 have hc1:len<=9223372036854775807:=by have g1:=hsl.cap;have g2:=hsl.small;rw [List.length_map] at g1;omega
 rw [hws] at hsl2 ⊢
 have HLEN:=hid hlen
 have HSL:=hid hsl2
 have HCL:=hid hcl
 have HMO:=hid hmo
 clear hlen hsl hsl2 hcl hmo
 have hcase:(t=1\/t=5)\/t=4\/(t=7\/t=8\/t=9)\/t=10\/(t=2\/t=3\/t=6)\/t < 1\/10 < t:=by omega
 rcases hcase with h | rfl | h | rfl | h | h | h
 ·obtain ⟨q1,q2,q3⟩:=p1 (by omega)
  rw [q1,q2,q3] at hp
  rw [h1 h]
  clear h1 h4 h7 h10 h0 p1 p7 p10 p0 q1 q2 q3 hck hls
  generalize m.num i=x at *
  have HP:=hid hp
  clear hp
  by_cases hx:4294967295 < x
  ·rw [if_pos hx]
   rcases h with rfl | rfl
   ·clear HMO
    go_enter Tryz.func39,Tryz.ntmps39
    go_wp2_with fail
    refine (HP.out _).mono ?_
    rintro e w1 ⟨rfl,hb1⟩
    have hk1:=HBX.out.b1.below hb1 HBX.out.b1.lt
    have HB1:=hid (HBX.out.bel.trans (hb1.mono (by have:=HBX.out.z;omega)))
    have d1:=hk1.cell 1
    simp only [gA,gB,gC] at d1
    clear hb1 hk1
    go_wp2_with fail
    go_ret
    exact ⟨rfl,HB1.out⟩
   ·clear HMO
    go_enter Tryz.func39,Tryz.ntmps39
    go_wp2_with fail
    refine (HP.out _).mono ?_
    rintro e w1 ⟨rfl,hb1⟩
    have hk1:=HBX.out.b1.below hb1 HBX.out.b1.lt
    have HB1:=hid (HBX.out.bel.trans (hb1.mono (by have:=HBX.out.z;omega)))
    have d1:=hk1.cell 1
    simp only [gA,gB,gC] at d1
    clear hb1 hk1
    go_wp2_with fail
    go_ret
    exact ⟨rfl,HB1.out⟩
  ·rw [if_neg hx]
   rcases h with rfl | rfl
   ·skip
    go_enter Tryz.func39,Tryz.ntmps39
    go_wp2_with fail
    refine (HP.out _).mono ?_
    rintro e w1 ⟨rfl,hb1⟩
    have hk1:=HBX.out.b1.below hb1 HBX.out.b1.lt
    have HB1:=hid (HBX.out.bel.trans (hb1.mono (by have:=HBX.out.z;omega)))
    have d1:=hk1.cell 1
    simp only [gA,gB,gC] at d1
    clear hb1 hk1
    go_wp2_with fail
    refine (HMO.out _).mono ?_
    rintro e w2 ⟨rfl,rfl⟩
    go_wp2_with fail
    go_loopw [9] (fun i wr=>i=.int .i64 0/\wr=w2) (fun _ _=>0)
    case atStart=>exact ⟨rfl,rfl⟩
    case round =>
     obtain ⟨rfl,rfl⟩:=hrel
     go_wp2_with fail
     go_ret
     exact ⟨rfl,HB1.out⟩
   ·skip
    go_enter Tryz.func39,Tryz.ntmps39
    go_wp2_with fail
    refine (HP.out _).mono ?_
    rintro e w1 ⟨rfl,hb1⟩
    have hk1:=HBX.out.b1.below hb1 HBX.out.b1.lt
    have HB1:=hid (HBX.out.bel.trans (hb1.mono (by have:=HBX.out.z;omega)))
    have d1:=hk1.cell 1
    simp only [gA,gB,gC] at d1
    clear hb1 hk1
    go_wp2_with fail
    refine (HMO.out _).mono ?_
    rintro e w2 ⟨rfl,rfl⟩
    go_wp2_with fail
    go_loopw [9] (fun i wr=>i=.int .i64 0/\wr=w2) (fun _ _=>0)
    case atStart=>exact ⟨rfl,rfl⟩
    case round =>
     obtain ⟨rfl,rfl⟩:=hrel
     go_wp2_with fail
     go_ret
     exact ⟨rfl,HB1.out⟩
 ·obtain ⟨q1,q2,q3⟩:=p1 (by omega)
  rw [q1,q2,q3] at hp
  rw [h4]
  clear h1 h4 h7 h10 h0 p1 p7 p10 p0 q1 q2 q3 hck hls
  generalize m.num i=x at *
  have HP:=hid hp
  clear hp
  by_cases hx:1 < x
  ·rw [if_pos hx]
   clear HMO
   go_enter Tryz.func39,Tryz.ntmps39
   go_wp2_with fail
   refine (HP.out _).mono ?_
   rintro e w1 ⟨rfl,hb1⟩
   have hk1:=HBX.out.b1.below hb1 HBX.out.b1.lt
   have HB1:=hid (HBX.out.bel.trans (hb1.mono (by have:=HBX.out.z;omega)))
   have d1:=hk1.cell 1
   simp only [gA,gB,gC] at d1
   clear hb1 hk1
   go_wp2_with fail
   go_ret
   exact ⟨rfl,HB1.out⟩
  ·rw [if_neg hx]
   go_enter Tryz.func39,Tryz.ntmps39
   go_wp2_with fail
   refine (HP.out _).mono ?_
   rintro e w1 ⟨rfl,hb1⟩
   have hk1:=HBX.out.b1.below hb1 HBX.out.b1.lt
   have HB1:=hid (HBX.out.bel.trans (hb1.mono (by have:=HBX.out.z;omega)))
   have d1:=hk1.cell 1
   simp only [gA,gB,gC] at d1
   clear hb1 hk1
   go_wp2_with fail
   refine (HMO.out _).mono ?_
   rintro e w2 ⟨rfl,rfl⟩
   go_wp2_with fail
   go_loopw [9] (fun i wr=>i=.int .i64 0/\wr=w2) (fun _ _=>0)
   case atStart=>exact ⟨rfl,rfl⟩
   case round =>
    obtain ⟨rfl,rfl⟩:=hrel
    go_wp2_with fail
    go_ret
    exact ⟨rfl,HB1.out⟩
 ·obtain ⟨q1,q2,q3⟩:=p7 (by omega)
  rw [q1,q2,q3] at hp
  rw [h7 (by omega)]
  clear h1 h4 h7 h10 h0 p1 p7 p10 p0 q1 q2 q3 hls
  generalize chk (m.text i) (mostN t:Nat)=ce at *
  generalize m.text i=y at *
  generalize mostN t=mo at *
  have HP:=hid hp
  have HCK:=hid hck
  clear hp hck
  rcases h with rfl | rfl | rfl
  ·skip
   go_enter Tryz.func39,Tryz.ntmps39
   go_wp2_with fail
   refine (HP.out _).mono ?_
   rintro e w1 ⟨rfl,hb1⟩
   have hk1:=HBX.out.b1.below hb1 HBX.out.b1.lt
   have HB1:=hid (HBX.out.bel.trans (hb1.mono (by have:=HBX.out.z;omega)))
   have d1:=hk1.cell 1
   simp only [gA,gB,gC] at d1
   clear hb1 hk1
   go_wp2_with fail
   refine (HMO.out _).mono ?_
   rintro e w2 ⟨rfl,rfl⟩
   go_wp2_with fail
   refine (HCK.out _).mono ?_
   rintro e w3 ⟨rfl,rfl⟩
   go_wp2_with fail
   go_ret
   exact ⟨rfl,HB1.out⟩
  ·skip
   go_enter Tryz.func39,Tryz.ntmps39
   go_wp2_with fail
   refine (HP.out _).mono ?_
   rintro e w1 ⟨rfl,hb1⟩
   have hk1:=HBX.out.b1.below hb1 HBX.out.b1.lt
   have HB1:=hid (HBX.out.bel.trans (hb1.mono (by have:=HBX.out.z;omega)))
   have d1:=hk1.cell 1
   simp only [gA,gB,gC] at d1
   clear hb1 hk1
   go_wp2_with fail
   refine (HMO.out _).mono ?_
   rintro e w2 ⟨rfl,rfl⟩
   go_wp2_with fail
   refine (HCK.out _).mono ?_
   rintro e w3 ⟨rfl,rfl⟩
   go_wp2_with fail
   go_ret
   exact ⟨rfl,HB1.out⟩
  ·skip
   go_enter Tryz.func39,Tryz.ntmps39
   go_wp2_with fail
   refine (HP.out _).mono ?_
   rintro e w1 ⟨rfl,hb1⟩
   have hk1:=HBX.out.b1.below hb1 HBX.out.b1.lt
   have HB1:=hid (HBX.out.bel.trans (hb1.mono (by have:=HBX.out.z;omega)))
   have d1:=hk1.cell 1
   simp only [gA,gB,gC] at d1
   clear hb1 hk1
   go_wp2_with fail
   refine (HMO.out _).mono ?_
   rintro e w2 ⟨rfl,rfl⟩
   go_wp2_with fail
   refine (HCK.out _).mono ?_
   rintro e w3 ⟨rfl,rfl⟩
   go_wp2_with fail
   go_ret
   exact ⟨rfl,HB1.out⟩
 ·obtain ⟨q1,q2,q3⟩:=p10
  rw [q1,q2,q3] at hp
  rw [h10]
  clear h1 h4 h7 h10 h0 p1 p7 p0 q1 q2 q3 hck
  have hmo10:mostN 10=64:=rfl
  rw [hmo10] at HMO
  have HP:=hid hp
  clear hp hmo10
  by_cases hb:64 < len
  ·rw [if_pos hb] at hls
   subst hls
   go_enter Tryz.func39,Tryz.ntmps39
   go_wp2_with fail
   refine (HP.out _).mono ?_
   rintro e w1 ⟨rfl,hb1⟩
   have hk1:=HBX.out.b1.below hb1 HBX.out.b1.lt
   have HB1:=hid (HBX.out.bel.trans (hb1.mono (by have:=HBX.out.z;omega)))
   have d1:=hk1.cell 1
   simp only [gA,gB,gC] at d1
   clear hb1 hk1
   go_wp2_with fail
   refine (HMO.out _).mono ?_
   rintro e w2 ⟨rfl,rfl⟩
   go_wp2_with fail
   go_ret
   exact ⟨rfl,HB1.out⟩
  ·rw [if_neg hb] at hls
   have HLS:=hid hls
   clear hls
   go_enter Tryz.func39,Tryz.ntmps39
   go_wp2_with fail
   refine (HP.out _).mono ?_
   rintro e w1 ⟨rfl,hb1⟩
   have hk1:=HBX.out.b1.below hb1 HBX.out.b1.lt
   have HB1:=hid (HBX.out.bel.trans (hb1.mono (by have:=HBX.out.z;omega)))
   have d1:=hk1.cell 1
   simp only [gA,gB,gC] at d1
   clear hb1 hk1
   go_wp2_with fail
   refine (HMO.out _).mono ?_
   rintro e w2 ⟨rfl,rfl⟩
   go_wp2_with fail
   have hs1:=HSL.out _ HB1.out
   have HS1:=hid hs1
   clear hs1
   go_loopw [9] (fun i wr=>∃ j:Nat,j<=len/\i=.int .i64 (j:Int)/\txtE 64 m.l=txtE 64 (m.l.drop j)/\wr=w2) (fun i _=>len - (intOf i).toNat)
   case atStart=>exact ⟨0,by omega,rfl,rfl,rfl⟩
   case round =>
    obtain ⟨j,hj,rfl,hte,rfl⟩:=hrel
    by_cases hlt:j < len
    ·have hj1:j < m.l.length:=by have:=HLEN.out;omega
     have hat:=txtE_at (most:=64) hj1
     rw [<-hte,<-HLS.out] at hat
     obtain ⟨b,off,hA,hbw,t0⟩:=HS1.out.rd j (sv m.l[j]) (by simp [hj1])
     rw [hA]
     have hck:=fun W=>HCL.out m.l[j] (List.getElem_mem hj1) W
     have hji:(j:Int) < (len:Int):=by omega
     have hj0:(0:Int)<=(j:Int):=by omega
     unfold sv at t0
     generalize m.l[j]=x at *
     generalize chk x 64=q at *
     have HCK:=hid hck
     have HAT:=hid hat
     clear hck hat hte hA
     go_wp2_with fail
     refine (HCK.out _).mono ?_
     rintro e w3 ⟨rfl,rfl⟩
     by_cases hq:q=0
     ·subst hq
      have hnx:=HAT.out
      rw [if_pos rfl] at hnx
      have HNX:=hid hnx
      clear hnx
      go_wp2_with fail
      exact ⟨⟨j+1,by omega,by go_num,by rw [<-HLS.out];exact HNX.out,trivial⟩,by simp [intOf] <;> omega⟩
     ·have hqb:(q != 0)=true:=by simpa using hq
      have hnx:=HAT.out
      rw [if_neg hq] at hnx
      have HNX:=hid hnx
      clear hnx hq
      go_wp2_with fail
      go_ret
      exact ⟨by rw [HNX.out];rfl,HB1.out⟩
    ·obtain rfl:j=len:=by omega
     rw [txtE_end (by have:=HLEN.out;omega),<-HLS.out] at hte
     have HT:=hid hte
     clear hte
     go_wp2_with fail
     go_ret
     exact ⟨by rw [HT.out];rfl,HB1.out⟩
 ·obtain ⟨q1,q2,q3⟩:=p1 (by omega)
  rw [q1,q2,q3] at hp
  rw [h0 (by omega)]
  clear h1 h4 h7 h10 h0 p1 p7 p10 p0 q1 q2 q3 hck hls
  generalize m.num i=x at *
  have HP:=hid hp
  clear hp
  rcases h with rfl | rfl | rfl
  ·skip
   go_enter Tryz.func39,Tryz.ntmps39
   go_wp2_with fail
   refine (HP.out _).mono ?_
   rintro e w1 ⟨rfl,hb1⟩
   have hk1:=HBX.out.b1.below hb1 HBX.out.b1.lt
   have HB1:=hid (HBX.out.bel.trans (hb1.mono (by have:=HBX.out.z;omega)))
   have d1:=hk1.cell 1
   simp only [gA,gB,gC] at d1
   clear hb1 hk1
   go_wp2_with fail
   refine (HMO.out _).mono ?_
   rintro e w2 ⟨rfl,rfl⟩
   go_wp2_with fail
   go_loopw [9] (fun i wr=>i=.int .i64 0/\wr=w2) (fun _ _=>0)
   case atStart=>exact ⟨rfl,rfl⟩
   case round =>
    obtain ⟨rfl,rfl⟩:=hrel
    go_wp2_with fail
    go_ret
    exact ⟨rfl,HB1.out⟩
  ·skip
   go_enter Tryz.func39,Tryz.ntmps39
   go_wp2_with fail
   refine (HP.out _).mono ?_
   rintro e w1 ⟨rfl,hb1⟩
   have hk1:=HBX.out.b1.below hb1 HBX.out.b1.lt
   have HB1:=hid (HBX.out.bel.trans (hb1.mono (by have:=HBX.out.z;omega)))
   have d1:=hk1.cell 1
   simp only [gA,gB,gC] at d1
   clear hb1 hk1
   go_wp2_with fail
   refine (HMO.out _).mono ?_
   rintro e w2 ⟨rfl,rfl⟩
   go_wp2_with fail
   go_loopw [9] (fun i wr=>i=.int .i64 0/\wr=w2) (fun _ _=>0)
   case atStart=>exact ⟨rfl,rfl⟩
   case round =>
    obtain ⟨rfl,rfl⟩:=hrel
    go_wp2_with fail
    go_ret
    exact ⟨rfl,HB1.out⟩
  ·skip
   go_enter Tryz.func39,Tryz.ntmps39
   go_wp2_with fail
   refine (HP.out _).mono ?_
   rintro e w1 ⟨rfl,hb1⟩
   have hk1:=HBX.out.b1.below hb1 HBX.out.b1.lt
   have HB1:=hid (HBX.out.bel.trans (hb1.mono (by have:=HBX.out.z;omega)))
   have d1:=hk1.cell 1
   simp only [gA,gB,gC] at d1
   clear hb1 hk1
   go_wp2_with fail
   refine (HMO.out _).mono ?_
   rintro e w2 ⟨rfl,rfl⟩
   go_wp2_with fail
   go_loopw [9] (fun i wr=>i=.int .i64 0/\wr=w2) (fun _ _=>0)
   case atStart=>exact ⟨rfl,rfl⟩
   case round =>
    obtain ⟨rfl,rfl⟩:=hrel
    go_wp2_with fail
    go_ret
    exact ⟨rfl,HB1.out⟩
 ·obtain ⟨q1,q2,q3⟩:=p0 (by omega)
  rw [q1,q2,q3] at hp
  rw [h0 (by omega)]
  clear h1 h4 h7 h10 h0 p1 p7 p10 p0 q1 q2 q3 hck hls
  have HP:=hid hp
  clear hp
  have n1:(t == 1)=false:=by simp;omega
  have n4:(t == 4)=false:=by simp;omega
  have n5:(t == 5)=false:=by simp;omega
  go_enter Tryz.func39,Tryz.ntmps39
  go_wp2_with fail
  refine (HP.out _).mono ?_
  rintro e w1 ⟨rfl,hb1⟩
  have hk1:=HBX.out.b1.below hb1 HBX.out.b1.lt
  have HB1:=hid (HBX.out.bel.trans (hb1.mono (by have:=HBX.out.z;omega)))
  have d1:=hk1.cell 1
  simp only [gA,gB,gC] at d1
  clear hb1 hk1
  go_wp2_with fail
  refine (HMO.out _).mono ?_
  rintro e w2 ⟨rfl,rfl⟩
  go_wp2_with fail
  go_loopw [9] (fun i wr=>i=.int .i64 0/\wr=w2) (fun _ _=>0)
  case atStart=>exact ⟨rfl,rfl⟩
  case round =>
   obtain ⟨rfl,rfl⟩:=hrel
   go_wp2_with fail
   go_ret
   exact ⟨rfl,HB1.out⟩
 ·obtain ⟨q1,q2,q3⟩:=p0 (by omega)
  rw [q1,q2,q3] at hp
  rw [h0 (by omega)]
  clear h1 h4 h7 h10 h0 p1 p7 p10 p0 q1 q2 q3 hck hls
  have HP:=hid hp
  clear hp
  have n1:(t == 1)=false:=by simp;omega
  have n4:(t == 4)=false:=by simp;omega
  have n5:(t == 5)=false:=by simp;omega
  go_enter Tryz.func39,Tryz.ntmps39
  go_wp2_with fail
  refine (HP.out _).mono ?_
  rintro e w1 ⟨rfl,hb1⟩
  have hk1:=HBX.out.b1.below hb1 HBX.out.b1.lt
  have HB1:=hid (HBX.out.bel.trans (hb1.mono (by have:=HBX.out.z;omega)))
  have d1:=hk1.cell 1
  simp only [gA,gB,gC] at d1
  clear hb1 hk1
  go_wp2_with fail
  refine (HMO.out _).mono ?_
  rintro e w2 ⟨rfl,rfl⟩
  go_wp2_with fail
  go_loopw [9] (fun i wr=>i=.int .i64 0/\wr=w2) (fun _ _=>0)
  case atStart=>exact ⟨rfl,rfl⟩
  case round =>
   obtain ⟨rfl,rfl⟩:=hrel
   go_wp2_with fail
   go_ret
   exact ⟨rfl,HB1.out⟩
end Go.Proofs.YtpmfdlghckfgiaaGreat
namespace Go.Proofs.YtpmfdlghckfgiaaGreat
open Go.RowKit
end Go.Proofs.YtpmfdlghckfgiaaGreat
