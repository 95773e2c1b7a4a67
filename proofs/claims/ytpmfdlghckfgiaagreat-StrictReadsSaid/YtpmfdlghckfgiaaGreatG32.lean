/- The walk of StrictReads. · The document's Any of layer 12. · The walk of StrictAny. -/
import Derived.Test.YtpmfdlghckfgiaaGreatStrRDec
import Derived.Test.YtpmfdlghckfgiaaGreatG30
set_option linter.unusedVariables false
set_option maxRecDepth 100000
set_option maxHeartbeats 16000000
namespace Go.Proofs.YtpmfdlghckfgiaaGreat
open Go.RowKit
theorem rmsame (R:MV) (A B:Option Addr) (c d:Nat) (W:World) (h1:Sl W A c (R.l.map sv)) (h2:Sl W B d (R.l.map sv)):Calls Tryz.prog 8 #[.agg #[.int .u8 (R.k:Int),.int .u64 (R.n0:Int),.int .u64 (R.n1:Int),.int .u64 (R.n2:Int),.int .u64 (R.n3:Int),.int .u64 (R.n4:Int),.int .u64 (R.n5:Int),.string R.s0,.string R.s1,.slice A R.l.length c],.agg #[.int .u8 (R.k:Int),.int .u64 (R.n0:Int),.int .u64 (R.n1:Int),.int .u64 (R.n2:Int),.int .u64 (R.n3:Int),.int .u64 (R.n4:Int),.int .u64 (R.n5:Int),.string R.s0,.string R.s1,.slice B R.l.length d]] W fun e w'=>e=.returned (.bool true)/\Below W.heap.size W w':=by
 have h:=rsame9_any { R with A:=A,c:=c } { R with A:=B,c:=d } W h1 h2
 rw [show sameB { R with A:=A,c:=c } { R with A:=B,c:=d }=true from (sameB_iff _ _).2 ⟨rfl,⟨rfl,rfl,rfl,rfl,rfl,rfl⟩,⟨rfl,rfl⟩,rfl⟩] at h
 exact h
theorem strictReads_any (k:Nat) (v:Int) (bs:List UInt8) (n:Nat) (A:Option Addr) (c:Nat) (w:World) (hk:k<=255) (hv1 : -9223372036854775808<=v) (hv2:v<=9223372036854775807) (hn:bs.length=n) (hs:Sl w A c (bs.map bv)):Calls Tryz.prog 3 #[.int .u8 (k:Int),.int .i64 v,.slice A n c] w fun e w'=>e=.returned (.bool true)/\Below w.heap.size w w':=by
 have hlv:=fun W=>live12_any W
 obtain ⟨s,hws⟩:∃ s,w.heap.size=s:=⟨_,rfl⟩
 have hsl:∀ W,Below s w W->Sl W A c (bs.map bv):=fun W hW=>hs.below (by rw [hws];exact hW)
 obtain ⟨X,hX⟩:∃ X,strD k v bs=X:=⟨_,rfl⟩
 obtain ⟨R,E,P⟩:=X
 have hd1:∀ W,Below s w W->_:=fun W hW=>dec_st (w:=W) hk hv1 hv2 hn (hsl W hW) hX
 have hd2:∀ W,Below s w W->Calls Tryz.prog 7 #[.int .u8 (k:Int),.int .i64 v,.slice A n c] W fun e w'=>∃ A' c',e=.returned (.tuple #[.agg #[.int .u8 (R.k:Int),.int .u64 (R.n0:Int),.int .u64 (R.n1:Int),.int .u64 (R.n2:Int),.int .u64 (R.n3:Int),.int .u64 (R.n4:Int),.int .u64 (R.n5:Int),.string R.s0,.string R.s1,.slice A' R.l.length c'],.agg #[.int .i64 E,.int .i64 (P:Int)]])/\Sl w' A' c' (R.l.map sv)/\Below W.heap.size W w':=fun W hW=>(rtd_any k v bs n A c W hk hv1 hv2 hn (hsl W hW)).mono (by rw [hX];rintro e w' ⟨A',c',he,ho,hb⟩;exact ⟨A',c',he,ho.sl,hb⟩)
 have hsa:=rmsame R
 rw [hws]
 have HLV:=hid hlv
 have HD1:=hid hd1
 have HD2:=hid hd2
 have HSA:=hid hsa
 clear hlv hd1 hd2 hsa hsl hs hn hX
 generalize ((P:Nat):Int)=P at *
 go_enter Tryz.func3,Tryz.ntmps3
 go_wp2_with fail
 refine (HLV.out w).mono ?_
 rintro e w1 ⟨rfl,hb⟩
 have hb0:Below s w w1:=by rw [<-hws];exact hb
 have HBB1:=hid hb0
 clear hb0 hb
 by_cases hn1:10000 < n
 ·have hn2:(10000:Int) < (n:Int):=by omega
  go_wp2_with fail
  go_ret
  exact ⟨rfl,HBB1.out⟩
 ·have hn2:¬ (10000:Int) < (n:Int):=by omega
  have hn3:decide ((10000:Int) < (n:Int))=false:=by simpa using hn2
  go_wp2_with fail
  refine (HD1.out _ HBB1.out).mono ?_
  rintro e w2 ⟨A1,c1,rfl,hs1,hb⟩
  have hb0:Below s w w2:=HBB1.out.trans (hb.mono (by have:=HBB1.out.size;omega))
  have HS1:=hid hs1
  have HBB2:=hid hb0
  clear hb0 hb hs1
  obtain ⟨p2,hz⟩:∃ p,w2.heap.size=p:=⟨_,rfl⟩
  go_wp2_with fail
  have hk7:Blk ((w2.alloc (.cells #[.int .u8 (R.k:Int),.int .u64 (R.n0:Int),.int .u64 (R.n1:Int),.int .u64 (R.n2:Int),.int .u64 (R.n3:Int),.int .u64 (R.n4:Int),.int .u64 (R.n5:Int),.string R.s0,.string R.s1,.slice A1 R.l.length c1] 29)).alloc (.cells #[.int .i64 E,.int .i64 P] 32)) (p2) 29 #[.int .u8 (R.k:Int),.int .u64 (R.n0:Int),.int .u64 (R.n1:Int),.int .u64 (R.n2:Int),.int .u64 (R.n3:Int),.int .u64 (R.n4:Int),.int .u64 (R.n5:Int),.string R.s0,.string R.s1,.slice A1 R.l.length c1]:=by
   have h:=((Blk.new w2 29 #[.int .u8 (R.k:Int),.int .u64 (R.n0:Int),.int .u64 (R.n1:Int),.int .u64 (R.n2:Int),.int .u64 (R.n3:Int),.int .u64 (R.n4:Int),.int .u64 (R.n5:Int),.string R.s0,.string R.s1,.slice A1 R.l.length c1]).alloc (.cells #[.int .i64 E,.int .i64 P] 32))
   rw [hz] at h;exact h
  have hk8:Blk ((w2.alloc (.cells #[.int .u8 (R.k:Int),.int .u64 (R.n0:Int),.int .u64 (R.n1:Int),.int .u64 (R.n2:Int),.int .u64 (R.n3:Int),.int .u64 (R.n4:Int),.int .u64 (R.n5:Int),.string R.s0,.string R.s1,.slice A1 R.l.length c1] 29)).alloc (.cells #[.int .i64 E,.int .i64 P] 32)) (p2+1) 32 #[.int .i64 E,.int .i64 P]:=by
   have h:=(Blk.new (w2.alloc (.cells #[.int .u8 (R.k:Int),.int .u64 (R.n0:Int),.int .u64 (R.n1:Int),.int .u64 (R.n2:Int),.int .u64 (R.n3:Int),.int .u64 (R.n4:Int),.int .u64 (R.n5:Int),.string R.s0,.string R.s1,.slice A1 R.l.length c1] 29)) 32 #[.int .i64 E,.int .i64 P])
   rw [World.size_alloc,hz] at h;exact h
  have hs1:=HS1.out.below (bw_a (bw_a (Below.refl w2.heap.size w2) (.cells #[.int .u8 (R.k:Int),.int .u64 (R.n0:Int),.int .u64 (R.n1:Int),.int .u64 (R.n2:Int),.int .u64 (R.n3:Int),.int .u64 (R.n4:Int),.int .u64 (R.n5:Int),.string R.s0,.string R.s1,.slice A1 R.l.length c1] 29)) (.cells #[.int .i64 E,.int .i64 P] 32))
  have hb0:Below s w ((w2.alloc (.cells #[.int .u8 (R.k:Int),.int .u64 (R.n0:Int),.int .u64 (R.n1:Int),.int .u64 (R.n2:Int),.int .u64 (R.n3:Int),.int .u64 (R.n4:Int),.int .u64 (R.n5:Int),.string R.s0,.string R.s1,.slice A1 R.l.length c1] 29)).alloc (.cells #[.int .i64 E,.int .i64 P] 32)):=HBB2.out.trans ((bw_a (bw_a (Below.refl w2.heap.size w2) (.cells #[.int .u8 (R.k:Int),.int .u64 (R.n0:Int),.int .u64 (R.n1:Int),.int .u64 (R.n2:Int),.int .u64 (R.n3:Int),.int .u64 (R.n4:Int),.int .u64 (R.n5:Int),.string R.s0,.string R.s1,.slice A1 R.l.length c1] 29)) (.cells #[.int .i64 E,.int .i64 P] 32)).mono (by have:=HBB2.out.size;omega))
  have hsz:(((w2.alloc (.cells #[.int .u8 (R.k:Int),.int .u64 (R.n0:Int),.int .u64 (R.n1:Int),.int .u64 (R.n2:Int),.int .u64 (R.n3:Int),.int .u64 (R.n4:Int),.int .u64 (R.n5:Int),.string R.s0,.string R.s1,.slice A1 R.l.length c1] 29)).alloc (.cells #[.int .i64 E,.int .i64 P] 32))).heap.size=p2+1+1:=by simp [hz]
  generalize hW3:((w2.alloc (.cells #[.int .u8 (R.k:Int),.int .u64 (R.n0:Int),.int .u64 (R.n1:Int),.int .u64 (R.n2:Int),.int .u64 (R.n3:Int),.int .u64 (R.n4:Int),.int .u64 (R.n5:Int),.string R.s0,.string R.s1,.slice A1 R.l.length c1] 29)).alloc (.cells #[.int .i64 E,.int .i64 P] 32))=W3 at *
  have HK7:=hid hk7
  have HK8:=hid hk8
  have HS1:=hid hs1
  have HBB3:=hid hb0
  have HSZ3:=hid hsz
  clear hb0 hsz hz hW3 hk7 hk8 hs1
  refine (HD2.out _ HBB3.out).mono ?_
  rintro e w4 ⟨A2,c2,rfl,hs2,hb⟩
  have hk7:=HK7.out.below hb HK7.out.lt
  have hk8:=HK8.out.below hb HK8.out.lt
  have hs1:=HS1.out.below hb
  have hb0:Below s w w4:=HBB3.out.trans (hb.mono (by have:=HBB3.out.size;omega))
  have HK7:=hid hk7
  have HK8:=hid hk8
  have HS1:=hid hs1
  have HS2:=hid hs2
  have HBB4:=hid hb0
  clear hb0 hb hk7 hk8 hs1 hs2
  have zhk80:=HK8.out.cell 0
  have zhk81:=HK8.out.cell 1
  have lhk8:=HK8.out.lt
  have zhk70:=HK7.out.cell 0
  have zhk71:=HK7.out.cell 1
  have zhk72:=HK7.out.cell 2
  have zhk73:=HK7.out.cell 3
  have zhk74:=HK7.out.cell 4
  have zhk75:=HK7.out.cell 5
  have zhk76:=HK7.out.cell 6
  have zhk77:=HK7.out.cell 7
  have zhk78:=HK7.out.cell 8
  have zhk79:=HK7.out.cell 9
  have lhk7:=HK7.out.lt
  simp only [gA,gB,gC] at zhk80 zhk81 zhk70 zhk71 zhk72 zhk73 zhk74 zhk75 zhk76 zhk77 zhk78 zhk79
  obtain ⟨p4,hz⟩:∃ p,w4.heap.size=p:=⟨_,rfl⟩
  rw [hz] at lhk8
  have mhk8:=Nat.lt_add_one_of_lt lhk8
  rw [hz] at lhk7
  have mhk7:=Nat.lt_add_one_of_lt lhk7
  go_wp2_with fail
  have hk9:Blk ((w4.alloc (.cells #[.int .u8 (R.k:Int),.int .u64 (R.n0:Int),.int .u64 (R.n1:Int),.int .u64 (R.n2:Int),.int .u64 (R.n3:Int),.int .u64 (R.n4:Int),.int .u64 (R.n5:Int),.string R.s0,.string R.s1,.slice A2 R.l.length c2] 29)).alloc (.cells #[.int .i64 E,.int .i64 P] 32)) (p4) 29 #[.int .u8 (R.k:Int),.int .u64 (R.n0:Int),.int .u64 (R.n1:Int),.int .u64 (R.n2:Int),.int .u64 (R.n3:Int),.int .u64 (R.n4:Int),.int .u64 (R.n5:Int),.string R.s0,.string R.s1,.slice A2 R.l.length c2]:=by
   have h:=((Blk.new w4 29 #[.int .u8 (R.k:Int),.int .u64 (R.n0:Int),.int .u64 (R.n1:Int),.int .u64 (R.n2:Int),.int .u64 (R.n3:Int),.int .u64 (R.n4:Int),.int .u64 (R.n5:Int),.string R.s0,.string R.s1,.slice A2 R.l.length c2]).alloc (.cells #[.int .i64 E,.int .i64 P] 32))
   rw [hz] at h;exact h
  have hk10:Blk ((w4.alloc (.cells #[.int .u8 (R.k:Int),.int .u64 (R.n0:Int),.int .u64 (R.n1:Int),.int .u64 (R.n2:Int),.int .u64 (R.n3:Int),.int .u64 (R.n4:Int),.int .u64 (R.n5:Int),.string R.s0,.string R.s1,.slice A2 R.l.length c2] 29)).alloc (.cells #[.int .i64 E,.int .i64 P] 32)) (p4+1) 32 #[.int .i64 E,.int .i64 P]:=by
   have h:=(Blk.new (w4.alloc (.cells #[.int .u8 (R.k:Int),.int .u64 (R.n0:Int),.int .u64 (R.n1:Int),.int .u64 (R.n2:Int),.int .u64 (R.n3:Int),.int .u64 (R.n4:Int),.int .u64 (R.n5:Int),.string R.s0,.string R.s1,.slice A2 R.l.length c2] 29)) 32 #[.int .i64 E,.int .i64 P])
   rw [World.size_alloc,hz] at h;exact h
  have hk7:=((HK7.out.alloc (.cells #[.int .u8 (R.k:Int),.int .u64 (R.n0:Int),.int .u64 (R.n1:Int),.int .u64 (R.n2:Int),.int .u64 (R.n3:Int),.int .u64 (R.n4:Int),.int .u64 (R.n5:Int),.string R.s0,.string R.s1,.slice A2 R.l.length c2] 29)).alloc (.cells #[.int .i64 E,.int .i64 P] 32))
  have hk8:=((HK8.out.alloc (.cells #[.int .u8 (R.k:Int),.int .u64 (R.n0:Int),.int .u64 (R.n1:Int),.int .u64 (R.n2:Int),.int .u64 (R.n3:Int),.int .u64 (R.n4:Int),.int .u64 (R.n5:Int),.string R.s0,.string R.s1,.slice A2 R.l.length c2] 29)).alloc (.cells #[.int .i64 E,.int .i64 P] 32))
  have hs1:=HS1.out.below (bw_a (bw_a (Below.refl w4.heap.size w4) (.cells #[.int .u8 (R.k:Int),.int .u64 (R.n0:Int),.int .u64 (R.n1:Int),.int .u64 (R.n2:Int),.int .u64 (R.n3:Int),.int .u64 (R.n4:Int),.int .u64 (R.n5:Int),.string R.s0,.string R.s1,.slice A2 R.l.length c2] 29)) (.cells #[.int .i64 E,.int .i64 P] 32))
  have hs2:=HS2.out.below (bw_a (bw_a (Below.refl w4.heap.size w4) (.cells #[.int .u8 (R.k:Int),.int .u64 (R.n0:Int),.int .u64 (R.n1:Int),.int .u64 (R.n2:Int),.int .u64 (R.n3:Int),.int .u64 (R.n4:Int),.int .u64 (R.n5:Int),.string R.s0,.string R.s1,.slice A2 R.l.length c2] 29)) (.cells #[.int .i64 E,.int .i64 P] 32))
  have hb0:Below s w ((w4.alloc (.cells #[.int .u8 (R.k:Int),.int .u64 (R.n0:Int),.int .u64 (R.n1:Int),.int .u64 (R.n2:Int),.int .u64 (R.n3:Int),.int .u64 (R.n4:Int),.int .u64 (R.n5:Int),.string R.s0,.string R.s1,.slice A2 R.l.length c2] 29)).alloc (.cells #[.int .i64 E,.int .i64 P] 32)):=HBB4.out.trans ((bw_a (bw_a (Below.refl w4.heap.size w4) (.cells #[.int .u8 (R.k:Int),.int .u64 (R.n0:Int),.int .u64 (R.n1:Int),.int .u64 (R.n2:Int),.int .u64 (R.n3:Int),.int .u64 (R.n4:Int),.int .u64 (R.n5:Int),.string R.s0,.string R.s1,.slice A2 R.l.length c2] 29)) (.cells #[.int .i64 E,.int .i64 P] 32)).mono (by have:=HBB4.out.size;omega))
  have hsz:(((w4.alloc (.cells #[.int .u8 (R.k:Int),.int .u64 (R.n0:Int),.int .u64 (R.n1:Int),.int .u64 (R.n2:Int),.int .u64 (R.n3:Int),.int .u64 (R.n4:Int),.int .u64 (R.n5:Int),.string R.s0,.string R.s1,.slice A2 R.l.length c2] 29)).alloc (.cells #[.int .i64 E,.int .i64 P] 32))).heap.size=p4+1+1:=by simp [hz]
  generalize hW5:((w4.alloc (.cells #[.int .u8 (R.k:Int),.int .u64 (R.n0:Int),.int .u64 (R.n1:Int),.int .u64 (R.n2:Int),.int .u64 (R.n3:Int),.int .u64 (R.n4:Int),.int .u64 (R.n5:Int),.string R.s0,.string R.s1,.slice A2 R.l.length c2] 29)).alloc (.cells #[.int .i64 E,.int .i64 P] 32))=W5 at *
  have HK7:=hid hk7
  have HK8:=hid hk8
  have HK9:=hid hk9
  have HK10:=hid hk10
  have HS1:=hid hs1
  have HS2:=hid hs2
  have HBB5:=hid hb0
  have HSZ5:=hid hsz
  clear hb0 hsz hz hW5 hk7 hk8 hk9 hk10 hs1 hs2
  refine (HSA.out A1 A2 c1 c2 _ HS1.out HS2.out).mono ?_
  rintro e w6 ⟨rfl,hb⟩
  clear lhk8 lhk7 zhk80 zhk81 zhk70 zhk71 zhk72 zhk73 zhk74 zhk75 zhk76 zhk77 zhk78 zhk79 mhk8 mhk7
  have hk7:=HK7.out.below hb HK7.out.lt
  have hk8:=HK8.out.below hb HK8.out.lt
  have hk9:=HK9.out.below hb HK9.out.lt
  have hk10:=HK10.out.below hb HK10.out.lt
  have hs1:=HS1.out.below hb
  have hs2:=HS2.out.below hb
  have hb0:Below s w w6:=HBB5.out.trans (hb.mono (by have:=HBB5.out.size;omega))
  have HK7:=hid hk7
  have HK8:=hid hk8
  have HK9:=hid hk9
  have HK10:=hid hk10
  have HS1:=hid hs1
  have HS2:=hid hs2
  have HBB6:=hid hb0
  clear hb0 hb hk7 hk8 hk9 hk10 hs1 hs2
  go_wp2_with fail
  go_ret
  exact ⟨rfl,HBB6.out⟩
end Go.Proofs.YtpmfdlghckfgiaaGreat
set_option linter.unusedVariables false
set_option maxRecDepth 100000
set_option maxHeartbeats 16000000
namespace Go.Proofs.YtpmfdlghckfgiaaGreat
open Go.RowKit
structure AK (s:Nat) (w:World) (bs:List UInt8) (m:Nat) (W:World):Prop where
 r:Blk W s 29 #[.int .u8 0,.int .u64 0,.int .u64 0,.int .u64 0,.int .u64 0,.int .u64 0,.int .u64 0,.string ⟨#[]⟩,.string ⟨#[]⟩,.slice none 0 0]
 bel:Below s w W
 no:∀ i,i < m->anyJ bs i=false
theorem any_least (p:Nat->Bool):∀ n,(∃ j,j < n/\p j=true/\∀ i,i < j->p i=false)\/∀ i,i < n->p i=false
 | 0=>.inr (fun i h=>by omega)
 | n+1=>by
  rcases any_least p n with ⟨j,h1,h2,h3⟩ | h
  ·exact .inl ⟨j,by omega,h2,h3⟩
  ·cases hp:p n with
   | true=>exact .inl ⟨n,by omega,hp,h⟩
   | false =>
    refine .inr fun i hi=>?_
    rcases Nat.lt_or_ge i n with h1 | h1
    ·exact h i h1
    ·obtain rfl:i=n:=by omega
     exact hp
theorem rtany_any (bs:List UInt8) (n:Nat) (A:Option Addr) (c:Nat) (w:World) (hn:bs.length=n) (hs:Sl w A c (bs.map bv)):Calls Tryz.prog 10 #[.slice A n c] w (AnyR w bs):=by
 obtain ⟨s,hsz⟩:∃ s,w.heap.size=s:=⟨_,rfl⟩
 have hd:=fun (k v:Nat) (h:k<=10) (h2:v<=3) W (hW:Below s w W)=>rtd_any k (v:Int) bs n A c W (by omega) (by omega) (by omega) hn (hs.below (by rw [hsz];exact hW))
 obtain ⟨Q,hQ⟩:∃ Q,Q=AnyR w bs:=⟨_,rfl⟩
 rw [<-hQ]
 have hq1:∀ (k v:Nat) (R:MV) (P:Nat) A' c' w',1<=k->k<=10->1<=v->v<=3->strD k (v:Int) bs=(R,0,P)->(∀ i,i < 3 * (k - 1)+(v - 1)->anyJ bs i=false)->Ow w' s 9 R.l.length A' c' (R.l.map sv)->Below s w w'->Q (.returned (.tuple #[.agg #[.int .u8 (R.k:Int),.int .u64 (R.n0:Int),.int .u64 (R.n1:Int),.int .u64 (R.n2:Int),.int .u64 (R.n3:Int),.int .u64 (R.n4:Int),.int .u64 (R.n5:Int),.string R.s0,.string R.s1,.slice A' R.l.length c'],.int .i64 (v:Int),.bool true])) w':=fun k v R P A' c' w' k1 k2 v1 v2 h hno ho hb=>by
  have e1:(3 * (k - 1)+(v - 1)) / 3+1=k:=by omega
  have e2:(3 * (k - 1)+(v - 1)) % 3+1=v:=by omega
  rw [hQ]
  refine ⟨.inl ⟨3 * (k - 1)+(v - 1),A',c',by omega,?_,hno,?_,?_⟩,by rw [hsz];exact hb⟩
  ·unfold anyJ;rw [e1,e2,h];rfl
  ·rw [e1,e2,h]
  ·rw [e1,e2,h,hsz];exact ho
 have hq2:∀ w',(∀ i,i < 30->anyJ bs i=false)->Below s w w'->Q (.returned (.tuple #[.agg #[.int .u8 0,.int .u64 0,.int .u64 0,.int .u64 0,.int .u64 0,.int .u64 0,.int .u64 0,.string ⟨#[]⟩,.string ⟨#[]⟩,.slice none 0 0],.int .i64 0,.bool false])) w':=fun w' h hb=>by
  rw [hQ]
  exact ⟨.inr ⟨h,rfl⟩,by rw [hsz];exact hb⟩
 have HD:=hid hd
 have HQ1:=hid hq1
 have HQ2:=hid hq2
 clear hd hq1 hq2 hQ hs hn
 have hk0:Blk (w.alloc (.cells #[.int .u8 0,.int .u64 0,.int .u64 0,.int .u64 0,.int .u64 0,.int .u64 0,.int .u64 0,.string ⟨#[]⟩,.string ⟨#[]⟩,.slice none 0 0] 29)) s 29 #[.int .u8 0,.int .u64 0,.int .u64 0,.int .u64 0,.int .u64 0,.int .u64 0,.int .u64 0,.string ⟨#[]⟩,.string ⟨#[]⟩,.slice none 0 0]:=by rw [<-hsz];exact Blk.new w _ _
 have hb0:Below s w (w.alloc (.cells #[.int .u8 0,.int .u64 0,.int .u64 0,.int .u64 0,.int .u64 0,.int .u64 0,.int .u64 0,.string ⟨#[]⟩,.string ⟨#[]⟩,.slice none 0 0] 29)):=by rw [<-hsz];exact bw_a (Below.refl _ w) _
 have HA0:=hid (show AK s w bs 0 (w.alloc (.cells #[.int .u8 0,.int .u64 0,.int .u64 0,.int .u64 0,.int .u64 0,.int .u64 0,.int .u64 0,.string ⟨#[]⟩,.string ⟨#[]⟩,.slice none 0 0] 29)) from ⟨hk0,hb0,fun i h=>by omega⟩)
 clear hk0 hb0
 go_enter Tryz.func10,Tryz.ntmps10
 go_wp2_with fail
 try rw [hsz]
 go_loopw [3,4,5,6] (fun r3 r4 kv _ wr=>∃ k:Nat,1<=k/\k<=11/\kv=.int .i64 (k:Int)/\r3=.int .i64 0/\r4=.bool false/\AK s w bs (3 * (k - 1)) wr) (fun _ _ kv _ _=>11 - (intOf kv).toNat)
 case atStart=>exact ⟨1,by omega,by omega,rfl,rfl,rfl,HA0.out⟩
 case round =>
  obtain ⟨k,k1,k2,rfl,rfl,rfl,hA⟩:=hrel
  have HAO:=hid hA
  clear hA
  by_cases hk:k<=10
  ·have hki:(k:Int)<=10:=by omega
   have hcv:IntKind.u8.wrap (k:Int)=(k:Int):=by
    have:k=1\/k=2\/k=3\/k=4\/k=5\/k=6\/k=7\/k=8\/k=9\/k=10:=by omega
    rcases this with rfl | rfl | rfl | rfl | rfl | rfl | rfl | rfl | rfl | rfl <;> rfl
   go_wp2_with fail
   obtain ⟨w0,rfl⟩:∃ x,x=wr:=⟨_,rfl⟩
   go_loopw [3,4,6] (fun r3 r4 vv wq=>∃ v:Nat,1<=v/\v<=4/\vv=.int .i64 (v:Int)/\r3=.int .i64 0/\r4=.bool false/\AK s w bs (3 * (k - 1)+(v - 1)) wq) (fun _ _ vv _=>4 - (intOf vv).toNat)
   case atStart=>exact ⟨1,by omega,by omega,rfl,rfl,rfl,by simpa using HAO.out⟩
   case round =>
    obtain ⟨v,v1,v2,rfl,rfl,rfl,hA⟩:=hrel
    have HAI:=hid hA
    clear hA
    by_cases hv:v<=3
    ·have hvi:(v:Int)<=3:=by omega
     have hdd:=HD.out k v hk hv wr HAI.out.bel
     obtain ⟨X,hX⟩:∃ X,strD k (v:Int) bs=X:=⟨_,rfl⟩
     have hq1:=fun R P A' c' w'=>HQ1.out k v R P A' c' w' k1 hk v1 hv
     rw [hX] at hdd hq1
     obtain ⟨R,E,P⟩:=X
     have hnx:E ≠ 0->anyJ bs (3 * (k - 1)+(v - 1))=false:=fun h=>by
      unfold anyJ
      rw [show (3 * (k - 1)+(v - 1)) / 3+1=k by omega,show (3 * (k - 1)+(v - 1)) % 3+1=v by omega,hX]
      simpa using h
     have HDD:=hid hdd
     have HQ3:=hid hq1
     have HNX:=hid hnx
     clear hdd hq1 hnx hX HQ1
     go_wp2_with fail
     refine HDD.out.mono ?_
     rintro e w2 ⟨A2,c2,rfl,ho2,hb2⟩
     have HB2:=hid hb2
     have HO2:=hid ho2
     clear hb2 ho2
     by_cases hE:E=0
     ·subst hE
      have hk2:=HAI.out.r.below HB2.out HAI.out.r.lt
      have l2:=hk2.lt
      have l3:s < w2.heap.size+1:=by omega
      have l4:s < w2.heap.size+1+1:=by omega
      have cq0:=hk2.cell 0
      have cq1:=hk2.cell 1
      have cq2:=hk2.cell 2
      have cq3:=hk2.cell 3
      have cq4:=hk2.cell 4
      have cq5:=hk2.cell 5
      have cq6:=hk2.cell 6
      have cq7:=hk2.cell 7
      have cq8:=hk2.cell 8
      have cq9:=hk2.cell 9
      have fq0:=hk2.frozen 0
      have fq1:=hk2.frozen 1
      have fq2:=hk2.frozen 2
      have fq3:=hk2.frozen 3
      have fq4:=hk2.frozen 4
      have fq5:=hk2.frozen 5
      have fq6:=hk2.frozen 6
      have fq7:=hk2.frozen 7
      have fq8:=hk2.frozen 8
      have fq9:=hk2.frozen 9
      simp only [gA,gB,gC] at cq0 cq1 cq2 cq3 cq4 cq5 cq6 cq7 cq8 cq9
      have HK2:=hid hk2
      clear hk2
      go_wp2_with fail
      obtain ⟨hkn,hcn⟩:=mstore HK2.out (.int .u8 (R.k:Int)) (.int .u64 (R.n0:Int)) (.int .u64 (R.n1:Int)) (.int .u64 (R.n2:Int)) (.int .u64 (R.n3:Int)) (.int .u64 (R.n4:Int)) (.int .u64 (R.n5:Int)) (.string R.s0) (.string R.s1) (.slice A2 R.l.length c2)
      clear cq0 cq1 cq2 cq3 cq4 cq5 cq6 cq7 cq8 cq9 fq0 fq1 fq2 fq3 fq4 fq5 fq6 fq7 fq8 fq9
      have hW8:∃ W8,((((((((((w2.setCell ⟨s,0,none⟩ (.int .u8 (R.k:Int))).setCell ⟨s,1,none⟩ (.int .u64 (R.n0:Int))).setCell ⟨s,2,none⟩ (.int .u64 (R.n1:Int))).setCell ⟨s,3,none⟩ (.int .u64 (R.n2:Int))).setCell ⟨s,4,none⟩ (.int .u64 (R.n3:Int))).setCell ⟨s,5,none⟩ (.int .u64 (R.n4:Int))).setCell ⟨s,6,none⟩ (.int .u64 (R.n5:Int))).setCell ⟨s,7,none⟩ (.string R.s0)).setCell ⟨s,8,none⟩ (.string R.s1)).setCell ⟨s,9,none⟩ (.slice A2 R.l.length c2))=W8:=⟨_,rfl⟩
      obtain ⟨W8,hW8⟩:=hW8
      rw [hW8] at hkn hcn ⊢
      clear hW8
      have hb9:Below W8.heap.size W8 ((W8.alloc (.cells #[.int .u8 (R.k:Int),.int .u64 (R.n0:Int),.int .u64 (R.n1:Int),.int .u64 (R.n2:Int),.int .u64 (R.n3:Int),.int .u64 (R.n4:Int),.int .u64 (R.n5:Int),.string R.s0,.string R.s1,.slice A2 R.l.length c2] 29)).alloc (.cells #[.int .i64 0,.int .i64 (P:Int)] 32)):=bw_a (bw_a (Below.refl _ W8) _) _
      obtain ⟨W9,hW9⟩:∃ W9,(W8.alloc (.cells #[.int .u8 (R.k:Int),.int .u64 (R.n0:Int),.int .u64 (R.n1:Int),.int .u64 (R.n2:Int),.int .u64 (R.n3:Int),.int .u64 (R.n4:Int),.int .u64 (R.n5:Int),.string R.s0,.string R.s1,.slice A2 R.l.length c2] 29)).alloc (.cells #[.int .i64 0,.int .i64 (P:Int)] 32)=W9:=⟨_,rfl⟩
      rw [hW9] at hb9 ⊢
      clear hW9
      have hk9:=hkn.below hb9 hkn.lt
      have x0:=hk9.cell 0
      have x1:=hk9.cell 1
      have x2:=hk9.cell 2
      have x3:=hk9.cell 3
      have x4:=hk9.cell 4
      have x5:=hk9.cell 5
      have x6:=hk9.cell 6
      have x7:=hk9.cell 7
      have x8:=hk9.cell 8
      have x9:=hk9.cell 9
      simp only [gA,gB,gC] at x0 x1 x2 x3 x4 x5 x6 x7 x8 x9
      refine bodyPost_ret (v:=.tuple #[.agg #[.int .u8 (R.k:Int),.int .u64 (R.n0:Int),.int .u64 (R.n1:Int),.int .u64 (R.n2:Int),.int .u64 (R.n3:Int),.int .u64 (R.n4:Int),.int .u64 (R.n5:Int),.string R.s0,.string R.s1,.slice A2 R.l.length c2],.int .i64 (v:Int),.bool true]) (by simp [results,Tryz.results10,go_sem,x0,x1,x2,x3,x4,x5,x6,x7,x8,x9]) rfl ?_
      have hl2:=HAI.out.r.lt
      have ho8:Ow W8 s 9 R.l.length A2 c2 (R.l.map sv):=⟨own_chgS (HO2.out.mono (Nat.le_of_lt hl2)).own hcn (fun gg hgg hx=>own_ne_blk HO2.out.own HK2.out (by decide) gg hgg hx)⟩
      exact HQ3.out R P A2 c2 _ rfl HAI.out.no (ho8.below hb9) (((HAI.out.bel.trans (HB2.out.mono (Nat.le_of_lt hl2))).trans (hcn.below (fun q hq=>by omega) (by have:=HB2.out.size;omega))).trans (hb9.mono (by have:=hkn.lt;omega)))
     ·have he:(E == 0)=false:=by simpa using hE
      have hle:AK s w bs (3 * (k - 1)+(v+1 - 1)) ((w2.alloc (.cells #[.int .u8 (R.k:Int),.int .u64 (R.n0:Int),.int .u64 (R.n1:Int),.int .u64 (R.n2:Int),.int .u64 (R.n3:Int),.int .u64 (R.n4:Int),.int .u64 (R.n5:Int),.string R.s0,.string R.s1,.slice A2 R.l.length c2] 29)).alloc (.cells #[.int .i64 E,.int .i64 (P:Int)] 32)):=by
       refine ⟨((HAI.out.r.below HB2.out HAI.out.r.lt).alloc _).alloc _,HAI.out.bel.trans ((bw_a (bw_a HB2.out _) _).mono (by have:=HAI.out.r.lt;omega)),fun i hi=>?_⟩
       rcases Nat.lt_or_ge i (3 * (k - 1)+(v - 1)) with h | h
       ·exact HAI.out.no i h
       ·obtain rfl:i=3 * (k - 1)+(v - 1):=by omega
        exact HNX.out hE
      have HLE:=hid hle
      clear hle
      go_wp2_with fail
      go_roundw
      case rel=>exact ⟨v+1,by omega,by omega,by go_num,rfl,rfl,HLE.out⟩
      case measure=>simp [intOf];omega
    ·have hvi:¬ (v:Int)<=3:=by omega
     have hle:AK s w bs (3 * (k+1 - 1)) wr:=⟨HAI.out.r,HAI.out.bel,fun i hi=>HAI.out.no i (by omega)⟩
     have HLE:=hid hle
     clear hle
     go_wp2_with fail
     go_roundw
     case rel=>exact ⟨k+1,by omega,by omega,by go_num,rfl,rfl,HLE.out⟩
     case measure=>simp [intOf];omega
  ·have hki:¬ (k:Int)<=10:=by omega
   have hk2:=HAO.out.r
   have hno:∀ i,i < 30->anyJ bs i=false:=fun i hi=>HAO.out.no i (by omega)
   have cq0:=hk2.cell 0
   have cq1:=hk2.cell 1
   have cq2:=hk2.cell 2
   have cq3:=hk2.cell 3
   have cq4:=hk2.cell 4
   have cq5:=hk2.cell 5
   have cq6:=hk2.cell 6
   have cq7:=hk2.cell 7
   have cq8:=hk2.cell 8
   have cq9:=hk2.cell 9
   have fq0:=hk2.frozen 0
   have fq1:=hk2.frozen 1
   have fq2:=hk2.frozen 2
   have fq3:=hk2.frozen 3
   have fq4:=hk2.frozen 4
   have fq5:=hk2.frozen 5
   have fq6:=hk2.frozen 6
   have fq7:=hk2.frozen 7
   have fq8:=hk2.frozen 8
   have fq9:=hk2.frozen 9
   simp only [gA,gB,gC] at cq0 cq1 cq2 cq3 cq4 cq5 cq6 cq7 cq8 cq9
   have HK2:=hid hk2
   have HNO:=hid hno
   clear hk2 hno
   go_wp2_with fail
   obtain ⟨hkn,hcn⟩:=mstore HK2.out (.int .u8 0) (.int .u64 0) (.int .u64 0) (.int .u64 0) (.int .u64 0) (.int .u64 0) (.int .u64 0) (.string ⟨#[]⟩) (.string ⟨#[]⟩) (.slice none 0 0)
   clear cq0 cq1 cq2 cq3 cq4 cq5 cq6 cq7 cq8 cq9 fq0 fq1 fq2 fq3 fq4 fq5 fq6 fq7 fq8 fq9
   have hW9:∃ W9,((((((((((wr.setCell ⟨s,0,none⟩ (.int .u8 0)).setCell ⟨s,1,none⟩ (.int .u64 0)).setCell ⟨s,2,none⟩ (.int .u64 0)).setCell ⟨s,3,none⟩ (.int .u64 0)).setCell ⟨s,4,none⟩ (.int .u64 0)).setCell ⟨s,5,none⟩ (.int .u64 0)).setCell ⟨s,6,none⟩ (.int .u64 0)).setCell ⟨s,7,none⟩ (.string ⟨#[]⟩)).setCell ⟨s,8,none⟩ (.string ⟨#[]⟩)).setCell ⟨s,9,none⟩ (.slice none 0 0))=W9:=⟨_,rfl⟩
   obtain ⟨W9,hW9⟩:=hW9
   rw [hW9] at hkn hcn ⊢
   clear hW9
   have x0:=hkn.cell 0
   have x1:=hkn.cell 1
   have x2:=hkn.cell 2
   have x3:=hkn.cell 3
   have x4:=hkn.cell 4
   have x5:=hkn.cell 5
   have x6:=hkn.cell 6
   have x7:=hkn.cell 7
   have x8:=hkn.cell 8
   have x9:=hkn.cell 9
   simp only [gA,gB,gC] at x0 x1 x2 x3 x4 x5 x6 x7 x8 x9
   refine bodyPost_ret (v:=.tuple #[.agg #[.int .u8 0,.int .u64 0,.int .u64 0,.int .u64 0,.int .u64 0,.int .u64 0,.int .u64 0,.string ⟨#[]⟩,.string ⟨#[]⟩,.slice none 0 0],.int .i64 0,.bool false]) (by simp [results,Tryz.results10,go_sem,x0,x1,x2,x3,x4,x5,x6,x7,x8,x9]) rfl ?_
   exact HQ2.out _ HNO.out (HAO.out.bel.trans (hcn.below (fun q hq=>by omega) (by have:=HAO.out.r.lt;omega)))
end Go.Proofs.YtpmfdlghckfgiaaGreat
set_option linter.unusedVariables false
set_option maxRecDepth 100000
set_option maxHeartbeats 16000000
namespace Go.Proofs.YtpmfdlghckfgiaaGreat
open Go.RowKit
theorem any_uni (bs:List UInt8):∃ (R:MV) (V:Int) (B:Bool),∀ w e w',AnyR w bs e w'->∃ A' c',e=.returned (.tuple #[.agg #[.int .u8 (R.k:Int),.int .u64 (R.n0:Int),.int .u64 (R.n1:Int),.int .u64 (R.n2:Int),.int .u64 (R.n3:Int),.int .u64 (R.n4:Int),.int .u64 (R.n5:Int),.string R.s0,.string R.s1,.slice A' R.l.length c'],.int .i64 V,.bool B])/\Sl w' A' c' (R.l.map sv)/\Below w.heap.size w w':=by
 rcases any_least (anyJ bs) 30 with ⟨j,h1,h2,h3⟩ | h
 ·refine ⟨(strD (j / 3+1) ((j % 3+1:Nat):Int) bs).1,((j % 3+1:Nat):Int),true,?_⟩
  rintro w e w' ⟨⟨i,A',c',g1,g2,g3,he,ho⟩ | ⟨g,he⟩,hb⟩
  ·have hij:i=j:=by
    rcases Nat.lt_trichotomy i j with q | q | q
    ·rw [h3 i q] at g2;cases g2
    ·exact q
    ·rw [g3 j q] at h2;cases h2
   subst hij
   exact ⟨A',c',he,ho.sl,hb⟩
  ·rw [g j h1] at h2;cases h2
 ·refine ⟨ZM,0,false,?_⟩
  rintro w e w' ⟨⟨i,A',c',g1,g2,g3,he,ho⟩ | ⟨g,he⟩,hb⟩
  ·rw [h i g1] at g2;cases g2
  ·exact ⟨none,0,he,Sl.nil_ w',hb⟩
theorem strictAny_any (bs:List UInt8) (n:Nat) (A:Option Addr) (c:Nat) (w:World) (hn:bs.length=n) (hs:Sl w A c (bs.map bv)):Calls Tryz.prog 4 #[.slice A n c] w fun e w'=>e=.returned (.bool true)/\Below w.heap.size w w':=by
 have hlv:=fun W=>live12_any W
 obtain ⟨s,hws⟩:∃ s,w.heap.size=s:=⟨_,rfl⟩
 have hsl:∀ W,Below s w W->Sl W A c (bs.map bv):=fun W hW=>hs.below (by rw [hws];exact hW)
 obtain ⟨R,V,B,hu⟩:=any_uni bs
 have hd1:∀ W,Below s w W->_:=fun W hW=>(tany_any bs n A c W hn (hsl W hW)).mono (hu W)
 have hd2:∀ W,Below s w W->_:=fun W hW=>(rtany_any bs n A c W hn (hsl W hW)).mono (hu W)
 have hsa:=rmsame R
 rw [hws]
 have HLV:=hid hlv
 have HD1:=hid hd1
 have HD2:=hid hd2
 have HSA:=hid hsa
 clear hlv hd1 hd2 hsa hsl hs hn hu
 go_enter Tryz.func4,Tryz.ntmps4
 go_wp2_with fail
 refine (HLV.out w).mono ?_
 rintro e w1 ⟨rfl,hb⟩
 have hb0:Below s w w1:=by rw [<-hws];exact hb
 have HBB1:=hid hb0
 clear hb0 hb
 by_cases hn1:3000 < n
 ·have hn2:(3000:Int) < (n:Int):=by omega
  go_wp2_with fail
  go_ret
  exact ⟨rfl,HBB1.out⟩
 ·have hn2:¬ (3000:Int) < (n:Int):=by omega
  have hn3:decide ((3000:Int) < (n:Int))=false:=by simpa using hn2
  go_wp2_with fail
  refine (HD1.out _ HBB1.out).mono ?_
  rintro e w2 ⟨A1,c1,rfl,hs1,hb⟩
  have hb0:Below s w w2:=HBB1.out.trans (hb.mono (by have:=HBB1.out.size;omega))
  have HS1:=hid hs1
  have HBB2:=hid hb0
  clear hb0 hb hs1
  obtain ⟨p2,hz⟩:∃ p,w2.heap.size=p:=⟨_,rfl⟩
  go_wp2_with fail
  have hk7:Blk (w2.alloc (.cells #[.int .u8 (R.k:Int),.int .u64 (R.n0:Int),.int .u64 (R.n1:Int),.int .u64 (R.n2:Int),.int .u64 (R.n3:Int),.int .u64 (R.n4:Int),.int .u64 (R.n5:Int),.string R.s0,.string R.s1,.slice A1 R.l.length c1] 29)) (p2) 29 #[.int .u8 (R.k:Int),.int .u64 (R.n0:Int),.int .u64 (R.n1:Int),.int .u64 (R.n2:Int),.int .u64 (R.n3:Int),.int .u64 (R.n4:Int),.int .u64 (R.n5:Int),.string R.s0,.string R.s1,.slice A1 R.l.length c1]:=by
   have h:=(Blk.new w2 29 #[.int .u8 (R.k:Int),.int .u64 (R.n0:Int),.int .u64 (R.n1:Int),.int .u64 (R.n2:Int),.int .u64 (R.n3:Int),.int .u64 (R.n4:Int),.int .u64 (R.n5:Int),.string R.s0,.string R.s1,.slice A1 R.l.length c1])
   rw [hz] at h;exact h
  have hs1:=HS1.out.below (bw_a (Below.refl w2.heap.size w2) (.cells #[.int .u8 (R.k:Int),.int .u64 (R.n0:Int),.int .u64 (R.n1:Int),.int .u64 (R.n2:Int),.int .u64 (R.n3:Int),.int .u64 (R.n4:Int),.int .u64 (R.n5:Int),.string R.s0,.string R.s1,.slice A1 R.l.length c1] 29))
  have hb0:Below s w (w2.alloc (.cells #[.int .u8 (R.k:Int),.int .u64 (R.n0:Int),.int .u64 (R.n1:Int),.int .u64 (R.n2:Int),.int .u64 (R.n3:Int),.int .u64 (R.n4:Int),.int .u64 (R.n5:Int),.string R.s0,.string R.s1,.slice A1 R.l.length c1] 29)):=HBB2.out.trans ((bw_a (Below.refl w2.heap.size w2) (.cells #[.int .u8 (R.k:Int),.int .u64 (R.n0:Int),.int .u64 (R.n1:Int),.int .u64 (R.n2:Int),.int .u64 (R.n3:Int),.int .u64 (R.n4:Int),.int .u64 (R.n5:Int),.string R.s0,.string R.s1,.slice A1 R.l.length c1] 29)).mono (by have:=HBB2.out.size;omega))
  have hsz:((w2.alloc (.cells #[.int .u8 (R.k:Int),.int .u64 (R.n0:Int),.int .u64 (R.n1:Int),.int .u64 (R.n2:Int),.int .u64 (R.n3:Int),.int .u64 (R.n4:Int),.int .u64 (R.n5:Int),.string R.s0,.string R.s1,.slice A1 R.l.length c1] 29))).heap.size=p2+1:=by simp [hz]
  generalize hW3:(w2.alloc (.cells #[.int .u8 (R.k:Int),.int .u64 (R.n0:Int),.int .u64 (R.n1:Int),.int .u64 (R.n2:Int),.int .u64 (R.n3:Int),.int .u64 (R.n4:Int),.int .u64 (R.n5:Int),.string R.s0,.string R.s1,.slice A1 R.l.length c1] 29))=W3 at *
  have HK7:=hid hk7
  have HS1:=hid hs1
  have HBB3:=hid hb0
  have HSZ3:=hid hsz
  clear hb0 hsz hz hW3 hk7 hs1
  refine (HD2.out _ HBB3.out).mono ?_
  rintro e w4 ⟨A2,c2,rfl,hs2,hb⟩
  have hk7:=HK7.out.below hb HK7.out.lt
  have hs1:=HS1.out.below hb
  have hb0:Below s w w4:=HBB3.out.trans (hb.mono (by have:=HBB3.out.size;omega))
  have HK7:=hid hk7
  have HS1:=hid hs1
  have HS2:=hid hs2
  have HBB4:=hid hb0
  clear hb0 hb hk7 hs1 hs2
  have zhk70:=HK7.out.cell 0
  have zhk71:=HK7.out.cell 1
  have zhk72:=HK7.out.cell 2
  have zhk73:=HK7.out.cell 3
  have zhk74:=HK7.out.cell 4
  have zhk75:=HK7.out.cell 5
  have zhk76:=HK7.out.cell 6
  have zhk77:=HK7.out.cell 7
  have zhk78:=HK7.out.cell 8
  have zhk79:=HK7.out.cell 9
  have lhk7:=HK7.out.lt
  simp only [gA,gB,gC] at zhk70 zhk71 zhk72 zhk73 zhk74 zhk75 zhk76 zhk77 zhk78 zhk79
  obtain ⟨p4,hz⟩:∃ p,w4.heap.size=p:=⟨_,rfl⟩
  rw [hz] at lhk7
  have mhk7:=Nat.lt_add_one_of_lt lhk7
  cases B with
  | false =>
   go_wp2_with fail
   have hk9:Blk (w4.alloc (.cells #[.int .u8 (R.k:Int),.int .u64 (R.n0:Int),.int .u64 (R.n1:Int),.int .u64 (R.n2:Int),.int .u64 (R.n3:Int),.int .u64 (R.n4:Int),.int .u64 (R.n5:Int),.string R.s0,.string R.s1,.slice A2 R.l.length c2] 29)) (p4) 29 #[.int .u8 (R.k:Int),.int .u64 (R.n0:Int),.int .u64 (R.n1:Int),.int .u64 (R.n2:Int),.int .u64 (R.n3:Int),.int .u64 (R.n4:Int),.int .u64 (R.n5:Int),.string R.s0,.string R.s1,.slice A2 R.l.length c2]:=by
    have h:=(Blk.new w4 29 #[.int .u8 (R.k:Int),.int .u64 (R.n0:Int),.int .u64 (R.n1:Int),.int .u64 (R.n2:Int),.int .u64 (R.n3:Int),.int .u64 (R.n4:Int),.int .u64 (R.n5:Int),.string R.s0,.string R.s1,.slice A2 R.l.length c2])
    rw [hz] at h;exact h
   have hk7:=(HK7.out.alloc (.cells #[.int .u8 (R.k:Int),.int .u64 (R.n0:Int),.int .u64 (R.n1:Int),.int .u64 (R.n2:Int),.int .u64 (R.n3:Int),.int .u64 (R.n4:Int),.int .u64 (R.n5:Int),.string R.s0,.string R.s1,.slice A2 R.l.length c2] 29))
   have hs1:=HS1.out.below (bw_a (Below.refl w4.heap.size w4) (.cells #[.int .u8 (R.k:Int),.int .u64 (R.n0:Int),.int .u64 (R.n1:Int),.int .u64 (R.n2:Int),.int .u64 (R.n3:Int),.int .u64 (R.n4:Int),.int .u64 (R.n5:Int),.string R.s0,.string R.s1,.slice A2 R.l.length c2] 29))
   have hs2:=HS2.out.below (bw_a (Below.refl w4.heap.size w4) (.cells #[.int .u8 (R.k:Int),.int .u64 (R.n0:Int),.int .u64 (R.n1:Int),.int .u64 (R.n2:Int),.int .u64 (R.n3:Int),.int .u64 (R.n4:Int),.int .u64 (R.n5:Int),.string R.s0,.string R.s1,.slice A2 R.l.length c2] 29))
   have hb0:Below s w (w4.alloc (.cells #[.int .u8 (R.k:Int),.int .u64 (R.n0:Int),.int .u64 (R.n1:Int),.int .u64 (R.n2:Int),.int .u64 (R.n3:Int),.int .u64 (R.n4:Int),.int .u64 (R.n5:Int),.string R.s0,.string R.s1,.slice A2 R.l.length c2] 29)):=HBB4.out.trans ((bw_a (Below.refl w4.heap.size w4) (.cells #[.int .u8 (R.k:Int),.int .u64 (R.n0:Int),.int .u64 (R.n1:Int),.int .u64 (R.n2:Int),.int .u64 (R.n3:Int),.int .u64 (R.n4:Int),.int .u64 (R.n5:Int),.string R.s0,.string R.s1,.slice A2 R.l.length c2] 29)).mono (by have:=HBB4.out.size;omega))
   have hsz:((w4.alloc (.cells #[.int .u8 (R.k:Int),.int .u64 (R.n0:Int),.int .u64 (R.n1:Int),.int .u64 (R.n2:Int),.int .u64 (R.n3:Int),.int .u64 (R.n4:Int),.int .u64 (R.n5:Int),.string R.s0,.string R.s1,.slice A2 R.l.length c2] 29))).heap.size=p4+1:=by simp [hz]
   generalize hW5:(w4.alloc (.cells #[.int .u8 (R.k:Int),.int .u64 (R.n0:Int),.int .u64 (R.n1:Int),.int .u64 (R.n2:Int),.int .u64 (R.n3:Int),.int .u64 (R.n4:Int),.int .u64 (R.n5:Int),.string R.s0,.string R.s1,.slice A2 R.l.length c2] 29))=W5 at *
   have HK7:=hid hk7
   have HK9:=hid hk9
   have HS1:=hid hs1
   have HS2:=hid hs2
   have HBB5:=hid hb0
   have HSZ5:=hid hsz
   clear hb0 hsz hz hW5 hk7 hk9 hs1 hs2
   refine (HSA.out A1 A2 c1 c2 _ HS1.out HS2.out).mono ?_
   rintro e w6 ⟨rfl,hb⟩
   clear lhk7 zhk70 zhk71 zhk72 zhk73 zhk74 zhk75 zhk76 zhk77 zhk78 zhk79 mhk7
   have hk7:=HK7.out.below hb HK7.out.lt
   have hk9:=HK9.out.below hb HK9.out.lt
   have hs1:=HS1.out.below hb
   have hs2:=HS2.out.below hb
   have hb0:Below s w w6:=HBB5.out.trans (hb.mono (by have:=HBB5.out.size;omega))
   have HK7:=hid hk7
   have HK9:=hid hk9
   have HS1:=hid hs1
   have HS2:=hid hs2
   have HBB6:=hid hb0
   clear hb0 hb hk7 hk9 hs1 hs2
   go_wp2_with fail
   go_ret
   exact ⟨rfl,HBB6.out⟩
  | true =>
   go_wp2_with fail
   have hk9:Blk (w4.alloc (.cells #[.int .u8 (R.k:Int),.int .u64 (R.n0:Int),.int .u64 (R.n1:Int),.int .u64 (R.n2:Int),.int .u64 (R.n3:Int),.int .u64 (R.n4:Int),.int .u64 (R.n5:Int),.string R.s0,.string R.s1,.slice A2 R.l.length c2] 29)) (p4) 29 #[.int .u8 (R.k:Int),.int .u64 (R.n0:Int),.int .u64 (R.n1:Int),.int .u64 (R.n2:Int),.int .u64 (R.n3:Int),.int .u64 (R.n4:Int),.int .u64 (R.n5:Int),.string R.s0,.string R.s1,.slice A2 R.l.length c2]:=by
    have h:=(Blk.new w4 29 #[.int .u8 (R.k:Int),.int .u64 (R.n0:Int),.int .u64 (R.n1:Int),.int .u64 (R.n2:Int),.int .u64 (R.n3:Int),.int .u64 (R.n4:Int),.int .u64 (R.n5:Int),.string R.s0,.string R.s1,.slice A2 R.l.length c2])
    rw [hz] at h;exact h
   have hk7:=(HK7.out.alloc (.cells #[.int .u8 (R.k:Int),.int .u64 (R.n0:Int),.int .u64 (R.n1:Int),.int .u64 (R.n2:Int),.int .u64 (R.n3:Int),.int .u64 (R.n4:Int),.int .u64 (R.n5:Int),.string R.s0,.string R.s1,.slice A2 R.l.length c2] 29))
   have hs1:=HS1.out.below (bw_a (Below.refl w4.heap.size w4) (.cells #[.int .u8 (R.k:Int),.int .u64 (R.n0:Int),.int .u64 (R.n1:Int),.int .u64 (R.n2:Int),.int .u64 (R.n3:Int),.int .u64 (R.n4:Int),.int .u64 (R.n5:Int),.string R.s0,.string R.s1,.slice A2 R.l.length c2] 29))
   have hs2:=HS2.out.below (bw_a (Below.refl w4.heap.size w4) (.cells #[.int .u8 (R.k:Int),.int .u64 (R.n0:Int),.int .u64 (R.n1:Int),.int .u64 (R.n2:Int),.int .u64 (R.n3:Int),.int .u64 (R.n4:Int),.int .u64 (R.n5:Int),.string R.s0,.string R.s1,.slice A2 R.l.length c2] 29))
   have hb0:Below s w (w4.alloc (.cells #[.int .u8 (R.k:Int),.int .u64 (R.n0:Int),.int .u64 (R.n1:Int),.int .u64 (R.n2:Int),.int .u64 (R.n3:Int),.int .u64 (R.n4:Int),.int .u64 (R.n5:Int),.string R.s0,.string R.s1,.slice A2 R.l.length c2] 29)):=HBB4.out.trans ((bw_a (Below.refl w4.heap.size w4) (.cells #[.int .u8 (R.k:Int),.int .u64 (R.n0:Int),.int .u64 (R.n1:Int),.int .u64 (R.n2:Int),.int .u64 (R.n3:Int),.int .u64 (R.n4:Int),.int .u64 (R.n5:Int),.string R.s0,.string R.s1,.slice A2 R.l.length c2] 29)).mono (by have:=HBB4.out.size;omega))
   have hsz:((w4.alloc (.cells #[.int .u8 (R.k:Int),.int .u64 (R.n0:Int),.int .u64 (R.n1:Int),.int .u64 (R.n2:Int),.int .u64 (R.n3:Int),.int .u64 (R.n4:Int),.int .u64 (R.n5:Int),.string R.s0,.string R.s1,.slice A2 R.l.length c2] 29))).heap.size=p4+1:=by simp [hz]
   generalize hW5:(w4.alloc (.cells #[.int .u8 (R.k:Int),.int .u64 (R.n0:Int),.int .u64 (R.n1:Int),.int .u64 (R.n2:Int),.int .u64 (R.n3:Int),.int .u64 (R.n4:Int),.int .u64 (R.n5:Int),.string R.s0,.string R.s1,.slice A2 R.l.length c2] 29))=W5 at *
   have HK7:=hid hk7
   have HK9:=hid hk9
   have HS1:=hid hs1
   have HS2:=hid hs2
   have HBB5:=hid hb0
   have HSZ5:=hid hsz
   clear hb0 hsz hz hW5 hk7 hk9 hs1 hs2
   refine (HSA.out A1 A2 c1 c2 _ HS1.out HS2.out).mono ?_
   rintro e w6 ⟨rfl,hb⟩
   clear lhk7 zhk70 zhk71 zhk72 zhk73 zhk74 zhk75 zhk76 zhk77 zhk78 zhk79 mhk7
   have hk7:=HK7.out.below hb HK7.out.lt
   have hk9:=HK9.out.below hb HK9.out.lt
   have hs1:=HS1.out.below hb
   have hs2:=HS2.out.below hb
   have hb0:Below s w w6:=HBB5.out.trans (hb.mono (by have:=HBB5.out.size;omega))
   have HK7:=hid hk7
   have HK9:=hid hk9
   have HS1:=hid hs1
   have HS2:=hid hs2
   have HBB6:=hid hb0
   clear hb0 hb hk7 hk9 hs1 hs2
   go_wp2_with fail
   go_ret
   exact ⟨rfl,HBB6.out⟩
end Go.Proofs.YtpmfdlghckfgiaaGreat
