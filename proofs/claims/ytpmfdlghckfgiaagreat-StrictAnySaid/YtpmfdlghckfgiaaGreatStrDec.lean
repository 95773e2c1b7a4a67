/- strict.read, strict.Decode, strict.Fix. -/
import Derived.Test.YtpmfdlghckfgiaaGreatG27
import Derived.Test.YtpmfdlghckfgiaaGreatG0
set_option linter.unusedVariables false
set_option maxRecDepth 100000
set_option maxHeartbeats 16000000
namespace Go.Proofs.YtpmfdlghckfgiaaGreat
open Go.RowKit
structure Ow (w:World) (B e n:Nat) (A:Option Addr) (c:Nat) (xs:List Value):Prop where
 own:w.ownsRow B e 1 (.slice A n c) n xs
theorem Ow.below {w w':World} {B e n:Nat} {A:Option Addr} {c:Nat} {xs:List Value} (h:Ow w B e n A c xs) (hb:Below w.heap.size w w'):Ow w' B e n A c xs:=⟨own_below h.own hb⟩
theorem Ow.chg {w w':World} {B e n:Nat} {A:Option Addr} {c:Nat} {xs:List Value} {S:Nat->Prop} (h:Ow w B e n A c xs) (hc:Chg S w w') (hS:∀ q,S q->q < B):Ow w' B e n A c xs:=⟨own_chgS h.own hc fun g hg hx=>by have:=(h.own.lt g hg).1;have:=hS g hx;omega⟩
theorem Ow.mono {w:World} {B B' e n:Nat} {A:Option Addr} {c:Nat} {xs:List Value} (h:Ow w B e n A c xs) (hb:B'<=B):Ow w B' e n A c xs:=⟨own_mono h.own hb⟩
theorem Ow.sl {w:World} {B e n:Nat} {A:Option Addr} {c:Nat} {xs:List Value} (h:Ow w B e n A c xs):Sl w A c xs:=by
 obtain ⟨A',c',he,-,hs⟩:=Sl.of_own h.own
 injection he with h1 h2 h3
 subst h1;subst h3
 exact hs
theorem Ow.nil_ (w:World) (B e:Nat):Ow w B e 0 none 0 []:=⟨World.ownsRow_nil _ _ _ _⟩
theorem dec_p {k:Nat} {v:Int} {bs:List UInt8} {n:Nat} {A:Option Addr} {c:Nat} {w:World} (hk:k<=255) (hv1 : -9223372036854775808<=v) (hv2:v<=9223372036854775807) (hn:bs.length=n) (hs:Sl w A c (bs.map bv)) {R:MV} {O:List (RF × Nat)} {E:Int} {P:Nat} (hR:readR k v bs=(R,O,E,P)) :
  Calls Tryz.prog 19 #[.int .u8 (k:Int),.int .i64 v,.slice A n c] w fun e w'=>∃ A' c',e=.returned (.tuple #[.agg #[.int .u8 (R.k:Int),.int .u64 (R.n0:Int),.int .u64 (R.n1:Int),.int .u64 (R.n2:Int),.int .u64 (R.n3:Int),.int .u64 (R.n4:Int),.int .u64 (R.n5:Int),.string R.s0,.string R.s1,.slice A' R.l.length c'],.agg #[.int .i64 E,.int .i64 (P:Int)]])/\Ow w' w.heap.size 9 R.l.length A' c' (R.l.map sv)/\Below w.heap.size w w':=by
 refine (ldec_any k v bs n A c w hk hv1 hv2 hn hs).mono ?_
 rw [hR]
 rintro e w' ⟨A',c',rfl,ho,hb⟩
 exact ⟨_,_,rfl,⟨ho⟩,hb⟩
theorem enc_good {k:Nat} {v:Int} {M:MV} (hk:k<=255) (hv1 : -9223372036854775808<=v) (hv2:v<=9223372036854775807) (hg:Good k v M) (hc:chkV M (ofL (k:Int) v)=(0,0)) (W:World) (A:Option Addr) (c:Nat) (hs:Sl W A c (M.l.map sv)) :
  Calls Tryz.prog 20 #[.agg #[.int .u8 (M.k:Int),.int .u64 (M.n0:Int),.int .u64 (M.n1:Int),.int .u64 (M.n2:Int),.int .u64 (M.n3:Int),.int .u64 (M.n4:Int),.int .u64 (M.n5:Int),.string M.s0,.string M.s1,.slice A M.l.length c],.int .i64 v] W fun e w'=>∃ Ao co,e=.returned (.tuple #[.slice Ao (encB M (ofL (k:Int) v)).length co,.agg #[.int .i64 0,.int .i64 0]])/\Ow w' W.heap.size 5 (encB M (ofL (k:Int) v)).length Ao co ((encB M (ofL (k:Int) v)).map bv)/\Below W.heap.size W w':=by
 have hsm:=good_sm hg
 have h:=(ebytes_any { M with A:=A,c:=c } v W (good_mvok hg hk hs) ⟨hsm.l,hsm.s,hsm.e⟩ hv1 hv2).mono (fun e w' h=>bytesR_sl h)
 have e1:encB { M with A:=A,c:=c } (ofL (M.k:Int) v)=encB M (ofL (k:Int) v):=(enc_alike (a:={ M with A:=A,c:=c }) (b:=M) ((sameB_iff _ _).2 ⟨rfl,⟨rfl,rfl,rfl,rfl,rfl,rfl⟩,⟨rfl,rfl⟩,rfl⟩)).trans (by rw [hg.hk])
 have e2:chkV { M with A:=A,c:=c } (ofL (M.k:Int) v)=(0,0):=by rw [chkV_ac,hg.hk];exact hc
 rw [e1,e2] at h
 refine h.mono ?_
 rintro e w' ⟨Ao,co,he,-,ho,hb⟩
 exact ⟨Ao,co,he,⟨ho⟩,hb⟩
def rW2 (w:World) (s f:Nat) (x0 x1 x2 x3 x4 x5 x6 x7 x8 x9 z0 z1:Value):World:=(((((((((((w.setCell ⟨s,0,none⟩ x0).setCell ⟨s,1,none⟩ x1).setCell ⟨s,2,none⟩ x2).setCell ⟨s,3,none⟩ x3).setCell ⟨s,4,none⟩ x4).setCell ⟨s,5,none⟩ x5).setCell ⟨s,6,none⟩ x6).setCell ⟨s,7,none⟩ x7).setCell ⟨s,8,none⟩ x8).setCell ⟨s,9,none⟩ x9).setCell ⟨f,0,none⟩ z0).setCell ⟨f,1,none⟩ z1
theorem rst2 {w:World} {s f:Nat} {o0 o1 o2 o3 o4 o5 o6 o7 o8 o9 q0 q1:Value} (hne:s ≠ f) (h6:Blk w s 29 #[o0,o1,o2,o3,o4,o5,o6,o7,o8,o9]) (h8:Blk w f 32 #[q0,q1]) (x0 x1 x2 x3 x4 x5 x6 x7 x8 x9 z0 z1:Value) :
  Blk (rW2 w s f x0 x1 x2 x3 x4 x5 x6 x7 x8 x9 z0 z1) s 29 #[x0,x1,x2,x3,x4,x5,x6,x7,x8,x9]/\Blk (rW2 w s f x0 x1 x2 x3 x4 x5 x6 x7 x8 x9 z0 z1) f 32 #[z0,z1]/\Chg (fun q=>q=s\/q=f) w (rW2 w s f x0 x1 x2 x3 x4 x5 x6 x7 x8 x9 z0 z1):=by
 obtain ⟨h1,h2⟩:=mstore h6 x0 x1 x2 x3 x4 x5 x6 x7 x8 x9
 have k8:=h2.blk h8 (by omega)
 have hc:=h2.mono (T:=fun q=>q=s\/q=f) (fun q _ h=>.inl h)
 unfold rW2
 generalize ((((((((((w.setCell ⟨s,0,none⟩ x0).setCell ⟨s,1,none⟩ x1).setCell ⟨s,2,none⟩ x2).setCell ⟨s,3,none⟩ x3).setCell ⟨s,4,none⟩ x4).setCell ⟨s,5,none⟩ x5).setCell ⟨s,6,none⟩ x6).setCell ⟨s,7,none⟩ x7).setCell ⟨s,8,none⟩ x8).setCell ⟨s,9,none⟩ x9)=W at *
 refine ⟨(h1.far (p:=⟨f,0,none⟩) (by show ¬ s=f;omega) z0).far (p:=⟨f,1,none⟩) (by show ¬ s=f;omega) z1,?_,?_⟩
 ·have:=(k8.set_ 0 z0).set_ 1 z1
  simpa using this
 ·exact (hc.set_ (.inl (.inr rfl)) 0 z0).set_ (.inl (.inr rfl)) 1 z1
def TrdR (w:World) (R:MV × List UInt8 × Int × Nat) (e:Ending) (w':World):Prop :=
 ∃ (A':Option Addr) (c':Nat) (Ao:Option Addr) (co:Nat),e=.returned (.tuple #[.agg #[.int .u8 (R.1.k:Int),.int .u64 (R.1.n0:Int),.int .u64 (R.1.n1:Int),.int .u64 (R.1.n2:Int),.int .u64 (R.1.n3:Int),.int .u64 (R.1.n4:Int),.int .u64 (R.1.n5:Int),.string R.1.s0,.string R.1.s1,.slice A' R.1.l.length c'],.slice Ao R.2.1.length co,.agg #[.int .i64 R.2.2.1,.int .i64 (R.2.2.2:Int)]])/\Ow w' w.heap.size 9 R.1.l.length A' c' (R.1.l.map sv)/\Ow w' w.heap.size 5 R.2.1.length Ao co (R.2.1.map bv)/\Below w.heap.size w w'
def TdcR (w:World) (R:MV × Int × Nat) (e:Ending) (w':World):Prop :=
 ∃ (A':Option Addr) (c':Nat),e=.returned (.tuple #[.agg #[.int .u8 (R.1.k:Int),.int .u64 (R.1.n0:Int),.int .u64 (R.1.n1:Int),.int .u64 (R.1.n2:Int),.int .u64 (R.1.n3:Int),.int .u64 (R.1.n4:Int),.int .u64 (R.1.n5:Int),.string R.1.s0,.string R.1.s1,.slice A' R.1.l.length c'],.agg #[.int .i64 R.2.1,.int .i64 (R.2.2:Int)]])/\Ow w' w.heap.size 9 R.1.l.length A' c' (R.1.l.map sv)/\Below w.heap.size w w'
def TrB2 (s p2:Nat) (E P:Int) (a0:Act) (w0:World) (f:Nat->Bool) (a:Act) (w:World):Prop:=∃ x0 x1 x3:Value,a=(((a0.put (some 23) x0).put (some 24) x1).put (some 7) x3)/\(f 0=true->x0=.agg #[.int .u8 0,.int .u64 0,.int .u64 0,.int .u64 0,.int .u64 0,.int .u64 0,.int .u64 0,.string ⟨#[]⟩,.string ⟨#[]⟩,.slice none 0 0])/\(f 1=true->x1=.agg #[.int .i64 E,.int .i64 P])/\(f 3=true->x3=.slice none 0 0)/\Blk w (s) 29 (if f 2=true then #[.int .u8 0,.int .u64 0,.int .u64 0,.int .u64 0,.int .u64 0,.int .u64 0,.int .u64 0,.string ⟨#[]⟩,.string ⟨#[]⟩,.slice none 0 0] else #[.int .u8 0,.int .u64 0,.int .u64 0,.int .u64 0,.int .u64 0,.int .u64 0,.int .u64 0,.string ⟨#[]⟩,.string ⟨#[]⟩,.slice none 0 0])/\Blk w (s+1) 32 (if f 4=true then #[.int .i64 E,.int .i64 P] else #[.int .i64 0,.int .i64 0])/\Chg (fun q=>q=s\/q=s+1) w0 w
theorem tread_bad (k:Nat) (v:Int) (bs:List UInt8) (n:Nat) (A:Option Addr) (c:Nat) (w:World) (hk:k<=255) (hv1 : -9223372036854775808<=v) (hv2:v<=9223372036854775807) (hn:bs.length=n) (hs:Sl w A c (bs.map bv)) {E:Int} {P:Nat} (hE:E ≠ 0) (hr:readR k v bs=(ZM,[],E,P)) :
  Calls Tryz.prog 13 #[.int .u8 (k:Int),.int .i64 v,.slice A n c] w (TrdR w (ZM,[],E,P)):=by
 have hd:=fun W (hW:Below w.heap.size w W)=>dec_p hk hv1 hv2 hn (hs.below hW) hr
 obtain ⟨Q,hQ⟩:∃ Q,Q=TrdR w (ZM,[],E,P):=⟨_,rfl⟩
 rw [<-hQ]
 obtain ⟨s,hws⟩:∃ s,w.heap.size=s:=⟨_,rfl⟩
 have hz:=hws
 have hq:∀ w',Below s w w'->Q (.returned (.tuple #[.agg #[.int .u8 0,.int .u64 0,.int .u64 0,.int .u64 0,.int .u64 0,.int .u64 0,.int .u64 0,.string ⟨#[]⟩,.string ⟨#[]⟩,.slice none 0 0],.slice none 0 0,.agg #[.int .i64 E,.int .i64 (P:Int)]])) w':=fun w' h=>by rw [hQ];exact ⟨none,0,none,0,rfl,Ow.nil_ _ _ _,Ow.nil_ _ _ _,by rw [hz];exact h⟩
 rw [hz] at hd
 generalize ((P:Nat):Int)=P at *
 have gb:(E != 0)=true:=by simpa using hE
 have HQ:=hid hq
 have HD:=hid hd
 have HE:=hid hE
 clear hq hd hQ hs hn hr hE
 go_enter Tryz.func13,Tryz.ntmps13
 go_wp2_with fail
 have hkm:Blk ((w.alloc (.cells #[.int .u8 0,.int .u64 0,.int .u64 0,.int .u64 0,.int .u64 0,.int .u64 0,.int .u64 0,.string ⟨#[]⟩,.string ⟨#[]⟩,.slice none 0 0] 29)).alloc (.cells #[.int .i64 0,.int .i64 0] 32)) (s) 29 #[.int .u8 0,.int .u64 0,.int .u64 0,.int .u64 0,.int .u64 0,.int .u64 0,.int .u64 0,.string ⟨#[]⟩,.string ⟨#[]⟩,.slice none 0 0]:=by
  have h:=((Blk.new w 29 #[.int .u8 0,.int .u64 0,.int .u64 0,.int .u64 0,.int .u64 0,.int .u64 0,.int .u64 0,.string ⟨#[]⟩,.string ⟨#[]⟩,.slice none 0 0]).alloc (.cells #[.int .i64 0,.int .i64 0] 32))
  rw [hz] at h;exact h
 have hkf:Blk ((w.alloc (.cells #[.int .u8 0,.int .u64 0,.int .u64 0,.int .u64 0,.int .u64 0,.int .u64 0,.int .u64 0,.string ⟨#[]⟩,.string ⟨#[]⟩,.slice none 0 0] 29)).alloc (.cells #[.int .i64 0,.int .i64 0] 32)) (s+1) 32 #[.int .i64 0,.int .i64 0]:=by
  have h:=(Blk.new (w.alloc (.cells #[.int .u8 0,.int .u64 0,.int .u64 0,.int .u64 0,.int .u64 0,.int .u64 0,.int .u64 0,.string ⟨#[]⟩,.string ⟨#[]⟩,.slice none 0 0] 29)) 32 #[.int .i64 0,.int .i64 0])
  rw [World.size_alloc,hz] at h;exact h
 have hb0:Below s w ((w.alloc (.cells #[.int .u8 0,.int .u64 0,.int .u64 0,.int .u64 0,.int .u64 0,.int .u64 0,.int .u64 0,.string ⟨#[]⟩,.string ⟨#[]⟩,.slice none 0 0] 29)).alloc (.cells #[.int .i64 0,.int .i64 0] 32)):=by
  have h:=(bw_a (bw_a (Below.refl w.heap.size w) (.cells #[.int .u8 0,.int .u64 0,.int .u64 0,.int .u64 0,.int .u64 0,.int .u64 0,.int .u64 0,.string ⟨#[]⟩,.string ⟨#[]⟩,.slice none 0 0] 29)) (.cells #[.int .i64 0,.int .i64 0] 32))
  rw [hz] at h;exact h
 have hsz:(((w.alloc (.cells #[.int .u8 0,.int .u64 0,.int .u64 0,.int .u64 0,.int .u64 0,.int .u64 0,.int .u64 0,.string ⟨#[]⟩,.string ⟨#[]⟩,.slice none 0 0] 29)).alloc (.cells #[.int .i64 0,.int .i64 0] 32))).heap.size=s+1+1:=by simp [hz]
 generalize hW1:((w.alloc (.cells #[.int .u8 0,.int .u64 0,.int .u64 0,.int .u64 0,.int .u64 0,.int .u64 0,.int .u64 0,.string ⟨#[]⟩,.string ⟨#[]⟩,.slice none 0 0] 29)).alloc (.cells #[.int .i64 0,.int .i64 0] 32))=W1 at *
 have HKM:=hid hkm
 have HKF:=hid hkf
 have HBB1:=hid hb0
 have HSZ1:=hid hsz
 clear hb0 hsz hz hW1 hkm hkf
 refine (HD.out _ HBB1.out).mono ?_
 rintro e w2 ⟨A1,c1,rfl,hs1,hb⟩
 have hkm:=HKM.out.below hb HKM.out.lt
 have hkf:=HKF.out.below hb HKF.out.lt
 have hb0:Below s w w2:=HBB1.out.trans (hb.mono (by have:=HBB1.out.size;omega))
 have HKM:=hid hkm
 have HKF:=hid hkf
 have HS1:=hid hs1
 have HBB2:=hid hb0
 clear hb0 hb hkm hkf hs1
 have lm:=HKM.out.lt
 have lf:=HKF.out.lt
 obtain ⟨p2,hz⟩:∃ p,w2.heap.size=p:=⟨_,rfl⟩
 rw [hz] at lm lf
 go_wp2_with fail
 have hk2:Blk ((w2.alloc (.cells #[.int .u8 (ZM.k:Int),.int .u64 (ZM.n0:Int),.int .u64 (ZM.n1:Int),.int .u64 (ZM.n2:Int),.int .u64 (ZM.n3:Int),.int .u64 (ZM.n4:Int),.int .u64 (ZM.n5:Int),.string ZM.s0,.string ZM.s1,.slice A1 ZM.l.length c1] 29)).alloc (.cells #[.int .i64 E,.int .i64 P] 32)) (p2) 29 #[.int .u8 (ZM.k:Int),.int .u64 (ZM.n0:Int),.int .u64 (ZM.n1:Int),.int .u64 (ZM.n2:Int),.int .u64 (ZM.n3:Int),.int .u64 (ZM.n4:Int),.int .u64 (ZM.n5:Int),.string ZM.s0,.string ZM.s1,.slice A1 ZM.l.length c1]:=by
  have h:=((Blk.new w2 29 #[.int .u8 (ZM.k:Int),.int .u64 (ZM.n0:Int),.int .u64 (ZM.n1:Int),.int .u64 (ZM.n2:Int),.int .u64 (ZM.n3:Int),.int .u64 (ZM.n4:Int),.int .u64 (ZM.n5:Int),.string ZM.s0,.string ZM.s1,.slice A1 ZM.l.length c1]).alloc (.cells #[.int .i64 E,.int .i64 P] 32))
  rw [hz] at h;exact h
 have hk3:Blk ((w2.alloc (.cells #[.int .u8 (ZM.k:Int),.int .u64 (ZM.n0:Int),.int .u64 (ZM.n1:Int),.int .u64 (ZM.n2:Int),.int .u64 (ZM.n3:Int),.int .u64 (ZM.n4:Int),.int .u64 (ZM.n5:Int),.string ZM.s0,.string ZM.s1,.slice A1 ZM.l.length c1] 29)).alloc (.cells #[.int .i64 E,.int .i64 P] 32)) (p2+1) 32 #[.int .i64 E,.int .i64 P]:=by
  have h:=(Blk.new (w2.alloc (.cells #[.int .u8 (ZM.k:Int),.int .u64 (ZM.n0:Int),.int .u64 (ZM.n1:Int),.int .u64 (ZM.n2:Int),.int .u64 (ZM.n3:Int),.int .u64 (ZM.n4:Int),.int .u64 (ZM.n5:Int),.string ZM.s0,.string ZM.s1,.slice A1 ZM.l.length c1] 29)) 32 #[.int .i64 E,.int .i64 P])
  rw [World.size_alloc,hz] at h;exact h
 have hkm:=((HKM.out.alloc (.cells #[.int .u8 (ZM.k:Int),.int .u64 (ZM.n0:Int),.int .u64 (ZM.n1:Int),.int .u64 (ZM.n2:Int),.int .u64 (ZM.n3:Int),.int .u64 (ZM.n4:Int),.int .u64 (ZM.n5:Int),.string ZM.s0,.string ZM.s1,.slice A1 ZM.l.length c1] 29)).alloc (.cells #[.int .i64 E,.int .i64 P] 32))
 have hkf:=((HKF.out.alloc (.cells #[.int .u8 (ZM.k:Int),.int .u64 (ZM.n0:Int),.int .u64 (ZM.n1:Int),.int .u64 (ZM.n2:Int),.int .u64 (ZM.n3:Int),.int .u64 (ZM.n4:Int),.int .u64 (ZM.n5:Int),.string ZM.s0,.string ZM.s1,.slice A1 ZM.l.length c1] 29)).alloc (.cells #[.int .i64 E,.int .i64 P] 32))
 have hs1:=HS1.out.below (bw_a (bw_a (Below.refl w2.heap.size w2) (.cells #[.int .u8 (ZM.k:Int),.int .u64 (ZM.n0:Int),.int .u64 (ZM.n1:Int),.int .u64 (ZM.n2:Int),.int .u64 (ZM.n3:Int),.int .u64 (ZM.n4:Int),.int .u64 (ZM.n5:Int),.string ZM.s0,.string ZM.s1,.slice A1 ZM.l.length c1] 29)) (.cells #[.int .i64 E,.int .i64 P] 32))
 have hb0:Below s w ((w2.alloc (.cells #[.int .u8 (ZM.k:Int),.int .u64 (ZM.n0:Int),.int .u64 (ZM.n1:Int),.int .u64 (ZM.n2:Int),.int .u64 (ZM.n3:Int),.int .u64 (ZM.n4:Int),.int .u64 (ZM.n5:Int),.string ZM.s0,.string ZM.s1,.slice A1 ZM.l.length c1] 29)).alloc (.cells #[.int .i64 E,.int .i64 P] 32)):=HBB2.out.trans ((bw_a (bw_a (Below.refl w2.heap.size w2) (.cells #[.int .u8 (ZM.k:Int),.int .u64 (ZM.n0:Int),.int .u64 (ZM.n1:Int),.int .u64 (ZM.n2:Int),.int .u64 (ZM.n3:Int),.int .u64 (ZM.n4:Int),.int .u64 (ZM.n5:Int),.string ZM.s0,.string ZM.s1,.slice A1 ZM.l.length c1] 29)) (.cells #[.int .i64 E,.int .i64 P] 32)).mono (by have:=HBB2.out.size;omega))
 have hsz:(((w2.alloc (.cells #[.int .u8 (ZM.k:Int),.int .u64 (ZM.n0:Int),.int .u64 (ZM.n1:Int),.int .u64 (ZM.n2:Int),.int .u64 (ZM.n3:Int),.int .u64 (ZM.n4:Int),.int .u64 (ZM.n5:Int),.string ZM.s0,.string ZM.s1,.slice A1 ZM.l.length c1] 29)).alloc (.cells #[.int .i64 E,.int .i64 P] 32))).heap.size=p2+1+1:=by simp [hz]
 generalize hW3:((w2.alloc (.cells #[.int .u8 (ZM.k:Int),.int .u64 (ZM.n0:Int),.int .u64 (ZM.n1:Int),.int .u64 (ZM.n2:Int),.int .u64 (ZM.n3:Int),.int .u64 (ZM.n4:Int),.int .u64 (ZM.n5:Int),.string ZM.s0,.string ZM.s1,.slice A1 ZM.l.length c1] 29)).alloc (.cells #[.int .i64 E,.int .i64 P] 32))=W3 at *
 have HKM:=hid hkm
 have HKF:=hid hkf
 have HK2:=hid hk2
 have HK3:=hid hk3
 have HS1:=hid hs1
 have HBB3:=hid hb0
 have HSZ3:=hid hsz
 clear hb0 hsz hz hW3 hkm hkf hk2 hk3 hs1
 refine wp_region_invB (by kernel_rfl) (by kernel_rfl) (TrB2 s p2 E P) ?_ ?_ ?_
 ·exact ⟨undef,undef,.slice none 0 0,(by first | (simp only [Act.put,gD,gE,gF];done) | rfl),by simp,by simp,by simp,(by simp;exact (HKM.out)),(by simp;exact (HKF.out)),⟨rfl,rfl,rfl,Nat.le_refl _,fun _ _ _=>rfl⟩⟩
 ·intro f a' wx i o ho hf hdep hI
  have hi:i < 5:=(Array.getElem?_eq_some_iff.1 ho).1
  have hcase:i=0\/i=1\/i=2\/i=3\/i=4:=by omega
  clear hi
  rcases hcase with rfl | rfl | rfl | rfl | rfl
  all_goals
   simp only [gA,gB,gC,Option.some.injEq] at ho
   subst ho
  ·skip
   obtain ⟨x0,x1,x3,rfl,h0,h1,h3,k2,k4,hC⟩:=hI
   have H0':=hid h0;have H1':=hid h1;have H3':=hid h3;have K2':=hid k2;have K4':=hid k4;have HC':=hid hC;clear h0 h1 h3 k2 k4 hC
   try simp only [Act.put,gD,gE,gF]
   go_wp2_with fail
   have h0:=H0'.out;have h1:=H1'.out;have h3:=H3'.out;have k2:=K2'.out;have k4:=K4'.out;have hC:=HC'.out
   exact ⟨_,x1,x3,(by first | (simp only [Act.put,gD,gE,gF];done) | rfl),(fun _=>rfl),(fun h=>h1 (by simpa using h)),(fun h=>h3 (by simpa using h)),(by simpa using k2),(by simpa using k4),hC⟩
  ·skip
   obtain ⟨x0,x1,x3,rfl,h0,h1,h3,k2,k4,hC⟩:=hI
   have hb:=hC.blk HK3.out (by omega)
   have t0:=hb.cell 0
   have t1:=hb.cell 1
   simp only [gA,gB,gC] at t0 t1
   clear hb
   have H0':=hid h0;have H1':=hid h1;have H3':=hid h3;have K2':=hid k2;have K4':=hid k4;have HC':=hid hC;clear h0 h1 h3 k2 k4 hC
   try simp only [Act.put,gD,gE,gF]
   go_wp2_with fail
   have h0:=H0'.out;have h1:=H1'.out;have h3:=H3'.out;have k2:=K2'.out;have k4:=K4'.out;have hC:=HC'.out
   exact ⟨x0,_,x3,(by first | (simp only [Act.put,gD,gE,gF];done) | rfl),(fun h=>h0 (by simpa using h)),(fun _=>rfl),(fun h=>h3 (by simpa using h)),(by simpa using k2),(by simpa using k4),hC⟩
  ·skip
   obtain ⟨x0,x1,x3,rfl,h0,h1,h3,k2,k4,hC⟩:=hI
   simp [Region.binds] at hdep
   obtain rfl:=h0 (by first | exact hdep | exact hdep.1 | exact hdep.2 | exact hdep.2.1 | exact hdep.2.2 | exact hdep.2.2.1 | exact hdep.2.2.2 | simp_all)
   have hko:Blk wx (s) 29 #[.int .u8 0,.int .u64 0,.int .u64 0,.int .u64 0,.int .u64 0,.int .u64 0,.int .u64 0,.string ⟨#[]⟩,.string ⟨#[]⟩,.slice none 0 0]:=by have h:=k2;rw [hf] at h;simpa using h
   have y0:=hko.cell 0;have z0:=hko.frozen 0
   have y1:=hko.cell 1;have z1:=hko.frozen 1
   have y2:=hko.cell 2;have z2:=hko.frozen 2
   have y3:=hko.cell 3;have z3:=hko.frozen 3
   have y4:=hko.cell 4;have z4:=hko.frozen 4
   have y5:=hko.cell 5;have z5:=hko.frozen 5
   have y6:=hko.cell 6;have z6:=hko.frozen 6
   have y7:=hko.cell 7;have z7:=hko.frozen 7
   have y8:=hko.cell 8;have z8:=hko.frozen 8
   have y9:=hko.cell 9;have z9:=hko.frozen 9
   simp only [gA,gB,gC] at y0 y1 y2 y3 y4 y5 y6 y7 y8 y9
   have HKO:=hid hko;clear hko
   have H0':=hid h0;have H1':=hid h1;have H3':=hid h3;have K2':=hid k2;have K4':=hid k4;have HC':=hid hC;clear h0 h1 h3 k2 k4 hC
   try simp only [Act.put,gD,gE,gF]
   go_wp2_with fail
   have h0:=H0'.out;have h1:=H1'.out;have h3:=H3'.out;have k2:=K2'.out;have k4:=K4'.out;have hC:=HC'.out
   obtain ⟨hkn,hcn⟩:=mstore HKO.out _ _ _ _ _ _ _ _ _ _
   exact ⟨_,x1,x3,(by first | (simp only [Act.put,gD,gE,gF];done) | rfl),(fun _=>rfl),(fun h=>h1 (by simpa using h)),(fun h=>h3 (by simpa using h)),(by simpa using hkn),(hcn.blk (by simpa using k4) (by omega)),(hC.trans (hcn.mono (fun q _ hq=>by subst hq;simp)))⟩
  ·skip
   obtain ⟨x0,x1,x3,rfl,h0,h1,h3,k2,k4,hC⟩:=hI
   have H0':=hid h0;have H1':=hid h1;have H3':=hid h3;have K2':=hid k2;have K4':=hid k4;have HC':=hid hC;clear h0 h1 h3 k2 k4 hC
   try simp only [Act.put,gD,gE,gF]
   go_wp2_with fail
   have h0:=H0'.out;have h1:=H1'.out;have h3:=H3'.out;have k2:=K2'.out;have k4:=K4'.out;have hC:=HC'.out
   exact ⟨x0,x1,_,(by first | (simp only [Act.put,gD,gE,gF];done) | rfl),(fun h=>h0 (by simpa using h)),(fun h=>h1 (by simpa using h)),(fun _=>rfl),(by simpa using k2),(by simpa using k4),hC⟩
  ·skip
   obtain ⟨x0,x1,x3,rfl,h0,h1,h3,k2,k4,hC⟩:=hI
   simp [Region.binds] at hdep
   obtain rfl:=h1 (by first | exact hdep | exact hdep.1 | exact hdep.2 | exact hdep.2.1 | exact hdep.2.2 | exact hdep.2.2.1 | exact hdep.2.2.2 | simp_all)
   have hko:Blk wx (s+1) 32 #[.int .i64 0,.int .i64 0]:=by have h:=k4;rw [hf] at h;simpa using h
   have y0:=hko.cell 0;have z0:=hko.frozen 0
   have y1:=hko.cell 1;have z1:=hko.frozen 1
   simp only [gA,gB,gC] at y0 y1
   have HKO:=hid hko;clear hko
   have H0':=hid h0;have H1':=hid h1;have H3':=hid h3;have K2':=hid k2;have K4':=hid k4;have HC':=hid hC;clear h0 h1 h3 k2 k4 hC
   try simp only [Act.put,gD,gE,gF]
   go_wp2_with fail
   have h0:=H0'.out;have h1:=H1'.out;have h3:=H3'.out;have k2:=K2'.out;have k4:=K4'.out;have hC:=HC'.out
   obtain ⟨hkn,hcn⟩:=fstore HKO.out _ _
   exact ⟨x0,_,x3,(by first | (simp only [Act.put,gD,gE,gF];done) | rfl),(fun h=>h0 (by simpa using h)),(fun _=>rfl),(fun h=>h3 (by simpa using h)),(hcn.blk (by simpa using k2) (by omega)),(by simpa using hkn),(hC.trans (hcn.mono (fun q _ hq=>by subst hq;simp)))⟩
 ·intro f a' wx hall hI
  obtain ⟨x0,x1,x3,rfl,h0,h1,h3,k2,k4,hC⟩:=hI
  obtain rfl:=h0 (hall 0 (by simp))
  obtain rfl:=h1 (hall 1 (by simp))
  obtain rfl:=h3 (hall 3 (by simp))
  have kf2:=k2;rw [hall 2 (by simp),if_pos rfl] at kf2
  have kf4:=k4;rw [hall 4 (by simp),if_pos rfl] at kf4
  clear h0 h1 h3 k2 k4 hall f
  try simp only [Act.put,gD,gE,gF]
  go_wp2_with fail
  have r0:=kf2.cell 0
  have r1:=kf2.cell 1
  have r2:=kf2.cell 2
  have r3:=kf2.cell 3
  have r4:=kf2.cell 4
  have r5:=kf2.cell 5
  have r6:=kf2.cell 6
  have r7:=kf2.cell 7
  have r8:=kf2.cell 8
  have r9:=kf2.cell 9
  have y0:=kf4.cell 0
  have y1:=kf4.cell 1
  simp only [gA,gB,gC] at r0 r1 r2 r3 r4 r5 r6 r7 r8 r9 y0 y1
  have hbR:=HBB3.out.trans (hC.below (B:=s) (fun x hx=>by omega) (by have:=HKM.out.lt;omega))
  refine bodyPost_ret (v:=.tuple #[.agg #[.int .u8 0,.int .u64 0,.int .u64 0,.int .u64 0,.int .u64 0,.int .u64 0,.int .u64 0,.string ⟨#[]⟩,.string ⟨#[]⟩,.slice none 0 0],.slice none 0 0,.agg #[.int .i64 E,.int .i64 P]]) (by simp [results,Tryz.results13,go_sem,r0,r1,r2,r3,r4,r5,r6,r7,r8,r9,y0,y1]) rfl ?_
  exact HQ.out _ hbR
theorem tread_good (k:Nat) (v:Int) (bs:List UInt8) (n:Nat) (A:Option Addr) (c:Nat) (w:World) (hk:k<=255) (hv1 : -9223372036854775808<=v) (hv2:v<=9223372036854775807) (hn:bs.length=n) (hs:Sl w A c (bs.map bv)) {M:MV} {O:List (RF × Nat)} (hr:readR k v bs=(M,O,0,0)) (hg:Good k v M) (hc:chkV M (ofL (k:Int) v)=(0,0)) :
  Calls Tryz.prog 13 #[.int .u8 (k:Int),.int .i64 v,.slice A n c] w (TrdR w (M,encB M (ofL (k:Int) v),0,0)):=by
 have hd:=fun W b (hW:Below w.heap.size w W) (hb:b<=W.heap.size)=>(dec_p hk hv1 hv2 hn (hs.below hW) hr).mono (R':=fun e w'=>∃ A' c',e=.returned (.tuple #[.agg #[.int .u8 (M.k:Int),.int .u64 (M.n0:Int),.int .u64 (M.n1:Int),.int .u64 (M.n2:Int),.int .u64 (M.n3:Int),.int .u64 (M.n4:Int),.int .u64 (M.n5:Int),.string M.s0,.string M.s1,.slice A' M.l.length c'],.agg #[.int .i64 0,.int .i64 ((0:Nat):Int)]])/\Ow w' b 9 M.l.length A' c' (M.l.map sv)/\Below W.heap.size W w') (by rintro e w' ⟨A',c',he,ho,h⟩;exact ⟨A',c',he,ho.mono hb,h⟩)
 have heb:=fun W b A1 c1 (hb:b<=W.heap.size) (h:Ow W b 9 M.l.length A1 c1 (M.l.map sv))=>(enc_good hk hv1 hv2 hg hc W A1 c1 h.sl).mono (R':=fun e w'=>∃ Ao co,e=.returned (.tuple #[.slice Ao (encB M (ofL (k:Int) v)).length co,.agg #[.int .i64 0,.int .i64 0]])/\Ow w' b 5 (encB M (ofL (k:Int) v)).length Ao co ((encB M (ofL (k:Int) v)).map bv)/\Below W.heap.size W w') (by rintro e w' ⟨Ao,co,he,ho,h⟩;exact ⟨Ao,co,he,ho.mono hb,h⟩)
 obtain ⟨Q,hQ⟩:∃ Q,Q=TrdR w (M,encB M (ofL (k:Int) v),0,0):=⟨_,rfl⟩
 rw [<-hQ]
 obtain ⟨s,hws⟩:∃ s,w.heap.size=s:=⟨_,rfl⟩
 have hz:=hws
 generalize encB M (ofL (k:Int) v)=eb at *
 have hq:∀ A' c' Ao co w',Ow w' (s+2) 9 M.l.length A' c' (M.l.map sv)->Ow w' (s+2) 5 eb.length Ao co (eb.map bv)->Below s w w'->Q (.returned (.tuple #[.agg #[.int .u8 (M.k:Int),.int .u64 (M.n0:Int),.int .u64 (M.n1:Int),.int .u64 (M.n2:Int),.int .u64 (M.n3:Int),.int .u64 (M.n4:Int),.int .u64 (M.n5:Int),.string M.s0,.string M.s1,.slice A' M.l.length c'],.slice Ao eb.length co,.agg #[.int .i64 0,.int .i64 0]])) w':=fun A' c' Ao co w' h1 h2 h=>by rw [hQ];exact ⟨A',c',Ao,co,rfl,h1.mono (by omega),h2.mono (by omega),by rw [hz];exact h⟩
 rw [hz] at hd
 have HQ:=hid hq
 have HD:=hid hd
 have HEB:=hid heb
 clear hq hd heb hQ hs hn hr hg hc
 go_enter Tryz.func13,Tryz.ntmps13
 go_wp2_with fail
 have hkm:Blk ((w.alloc (.cells #[.int .u8 0,.int .u64 0,.int .u64 0,.int .u64 0,.int .u64 0,.int .u64 0,.int .u64 0,.string ⟨#[]⟩,.string ⟨#[]⟩,.slice none 0 0] 29)).alloc (.cells #[.int .i64 0,.int .i64 0] 32)) (s) 29 #[.int .u8 0,.int .u64 0,.int .u64 0,.int .u64 0,.int .u64 0,.int .u64 0,.int .u64 0,.string ⟨#[]⟩,.string ⟨#[]⟩,.slice none 0 0]:=by
  have h:=((Blk.new w 29 #[.int .u8 0,.int .u64 0,.int .u64 0,.int .u64 0,.int .u64 0,.int .u64 0,.int .u64 0,.string ⟨#[]⟩,.string ⟨#[]⟩,.slice none 0 0]).alloc (.cells #[.int .i64 0,.int .i64 0] 32))
  rw [hz] at h;exact h
 have hkf:Blk ((w.alloc (.cells #[.int .u8 0,.int .u64 0,.int .u64 0,.int .u64 0,.int .u64 0,.int .u64 0,.int .u64 0,.string ⟨#[]⟩,.string ⟨#[]⟩,.slice none 0 0] 29)).alloc (.cells #[.int .i64 0,.int .i64 0] 32)) (s+1) 32 #[.int .i64 0,.int .i64 0]:=by
  have h:=(Blk.new (w.alloc (.cells #[.int .u8 0,.int .u64 0,.int .u64 0,.int .u64 0,.int .u64 0,.int .u64 0,.int .u64 0,.string ⟨#[]⟩,.string ⟨#[]⟩,.slice none 0 0] 29)) 32 #[.int .i64 0,.int .i64 0])
  rw [World.size_alloc,hz] at h;exact h
 have hb0:Below s w ((w.alloc (.cells #[.int .u8 0,.int .u64 0,.int .u64 0,.int .u64 0,.int .u64 0,.int .u64 0,.int .u64 0,.string ⟨#[]⟩,.string ⟨#[]⟩,.slice none 0 0] 29)).alloc (.cells #[.int .i64 0,.int .i64 0] 32)):=by
  have h:=(bw_a (bw_a (Below.refl w.heap.size w) (.cells #[.int .u8 0,.int .u64 0,.int .u64 0,.int .u64 0,.int .u64 0,.int .u64 0,.int .u64 0,.string ⟨#[]⟩,.string ⟨#[]⟩,.slice none 0 0] 29)) (.cells #[.int .i64 0,.int .i64 0] 32))
  rw [hz] at h;exact h
 have hsz:(((w.alloc (.cells #[.int .u8 0,.int .u64 0,.int .u64 0,.int .u64 0,.int .u64 0,.int .u64 0,.int .u64 0,.string ⟨#[]⟩,.string ⟨#[]⟩,.slice none 0 0] 29)).alloc (.cells #[.int .i64 0,.int .i64 0] 32))).heap.size=s+1+1:=by simp [hz]
 generalize hW1:((w.alloc (.cells #[.int .u8 0,.int .u64 0,.int .u64 0,.int .u64 0,.int .u64 0,.int .u64 0,.int .u64 0,.string ⟨#[]⟩,.string ⟨#[]⟩,.slice none 0 0] 29)).alloc (.cells #[.int .i64 0,.int .i64 0] 32))=W1 at *
 have HKM:=hid hkm
 have HKF:=hid hkf
 have HBB1:=hid hb0
 have HSZ1:=hid hsz
 clear hb0 hsz hz hW1 hkm hkf
 refine (HD.out _ (s+2) HBB1.out (by have:=HSZ1.out;omega)).mono ?_
 rintro e w2 ⟨A1,c1,rfl,hs1,hb⟩
 have hkm:=HKM.out.below hb HKM.out.lt
 have hkf:=HKF.out.below hb HKF.out.lt
 have hb0:Below s w w2:=HBB1.out.trans (hb.mono (by have:=HBB1.out.size;omega))
 have HKM:=hid hkm
 have HKF:=hid hkf
 have HS1:=hid hs1
 have HBB2:=hid hb0
 clear hb0 hb hkm hkf hs1
 have lm:=HKM.out.lt
 have lf:=HKF.out.lt
 obtain ⟨p2,hz⟩:∃ p,w2.heap.size=p:=⟨_,rfl⟩
 rw [hz] at lm lf
 go_wp2_with fail
 have hk2:Blk ((w2.alloc (.cells #[.int .u8 (M.k:Int),.int .u64 (M.n0:Int),.int .u64 (M.n1:Int),.int .u64 (M.n2:Int),.int .u64 (M.n3:Int),.int .u64 (M.n4:Int),.int .u64 (M.n5:Int),.string M.s0,.string M.s1,.slice A1 M.l.length c1] 29)).alloc (.cells #[.int .i64 0,.int .i64 ((0:Nat):Int)] 32)) (p2) 29 #[.int .u8 (M.k:Int),.int .u64 (M.n0:Int),.int .u64 (M.n1:Int),.int .u64 (M.n2:Int),.int .u64 (M.n3:Int),.int .u64 (M.n4:Int),.int .u64 (M.n5:Int),.string M.s0,.string M.s1,.slice A1 M.l.length c1]:=by
  have h:=((Blk.new w2 29 #[.int .u8 (M.k:Int),.int .u64 (M.n0:Int),.int .u64 (M.n1:Int),.int .u64 (M.n2:Int),.int .u64 (M.n3:Int),.int .u64 (M.n4:Int),.int .u64 (M.n5:Int),.string M.s0,.string M.s1,.slice A1 M.l.length c1]).alloc (.cells #[.int .i64 0,.int .i64 ((0:Nat):Int)] 32))
  rw [hz] at h;exact h
 have hk3:Blk ((w2.alloc (.cells #[.int .u8 (M.k:Int),.int .u64 (M.n0:Int),.int .u64 (M.n1:Int),.int .u64 (M.n2:Int),.int .u64 (M.n3:Int),.int .u64 (M.n4:Int),.int .u64 (M.n5:Int),.string M.s0,.string M.s1,.slice A1 M.l.length c1] 29)).alloc (.cells #[.int .i64 0,.int .i64 ((0:Nat):Int)] 32)) (p2+1) 32 #[.int .i64 0,.int .i64 ((0:Nat):Int)]:=by
  have h:=(Blk.new (w2.alloc (.cells #[.int .u8 (M.k:Int),.int .u64 (M.n0:Int),.int .u64 (M.n1:Int),.int .u64 (M.n2:Int),.int .u64 (M.n3:Int),.int .u64 (M.n4:Int),.int .u64 (M.n5:Int),.string M.s0,.string M.s1,.slice A1 M.l.length c1] 29)) 32 #[.int .i64 0,.int .i64 ((0:Nat):Int)])
  rw [World.size_alloc,hz] at h;exact h
 have hkm:=((HKM.out.alloc (.cells #[.int .u8 (M.k:Int),.int .u64 (M.n0:Int),.int .u64 (M.n1:Int),.int .u64 (M.n2:Int),.int .u64 (M.n3:Int),.int .u64 (M.n4:Int),.int .u64 (M.n5:Int),.string M.s0,.string M.s1,.slice A1 M.l.length c1] 29)).alloc (.cells #[.int .i64 0,.int .i64 ((0:Nat):Int)] 32))
 have hkf:=((HKF.out.alloc (.cells #[.int .u8 (M.k:Int),.int .u64 (M.n0:Int),.int .u64 (M.n1:Int),.int .u64 (M.n2:Int),.int .u64 (M.n3:Int),.int .u64 (M.n4:Int),.int .u64 (M.n5:Int),.string M.s0,.string M.s1,.slice A1 M.l.length c1] 29)).alloc (.cells #[.int .i64 0,.int .i64 ((0:Nat):Int)] 32))
 have hs1:=HS1.out.below (bw_a (bw_a (Below.refl w2.heap.size w2) (.cells #[.int .u8 (M.k:Int),.int .u64 (M.n0:Int),.int .u64 (M.n1:Int),.int .u64 (M.n2:Int),.int .u64 (M.n3:Int),.int .u64 (M.n4:Int),.int .u64 (M.n5:Int),.string M.s0,.string M.s1,.slice A1 M.l.length c1] 29)) (.cells #[.int .i64 0,.int .i64 ((0:Nat):Int)] 32))
 have hb0:Below s w ((w2.alloc (.cells #[.int .u8 (M.k:Int),.int .u64 (M.n0:Int),.int .u64 (M.n1:Int),.int .u64 (M.n2:Int),.int .u64 (M.n3:Int),.int .u64 (M.n4:Int),.int .u64 (M.n5:Int),.string M.s0,.string M.s1,.slice A1 M.l.length c1] 29)).alloc (.cells #[.int .i64 0,.int .i64 ((0:Nat):Int)] 32)):=HBB2.out.trans ((bw_a (bw_a (Below.refl w2.heap.size w2) (.cells #[.int .u8 (M.k:Int),.int .u64 (M.n0:Int),.int .u64 (M.n1:Int),.int .u64 (M.n2:Int),.int .u64 (M.n3:Int),.int .u64 (M.n4:Int),.int .u64 (M.n5:Int),.string M.s0,.string M.s1,.slice A1 M.l.length c1] 29)) (.cells #[.int .i64 0,.int .i64 ((0:Nat):Int)] 32)).mono (by have:=HBB2.out.size;omega))
 have hsz:(((w2.alloc (.cells #[.int .u8 (M.k:Int),.int .u64 (M.n0:Int),.int .u64 (M.n1:Int),.int .u64 (M.n2:Int),.int .u64 (M.n3:Int),.int .u64 (M.n4:Int),.int .u64 (M.n5:Int),.string M.s0,.string M.s1,.slice A1 M.l.length c1] 29)).alloc (.cells #[.int .i64 0,.int .i64 ((0:Nat):Int)] 32))).heap.size=p2+1+1:=by simp [hz]
 generalize hW3:((w2.alloc (.cells #[.int .u8 (M.k:Int),.int .u64 (M.n0:Int),.int .u64 (M.n1:Int),.int .u64 (M.n2:Int),.int .u64 (M.n3:Int),.int .u64 (M.n4:Int),.int .u64 (M.n5:Int),.string M.s0,.string M.s1,.slice A1 M.l.length c1] 29)).alloc (.cells #[.int .i64 0,.int .i64 ((0:Nat):Int)] 32))=W3 at *
 have HKM:=hid hkm
 have HKF:=hid hkf
 have HK2:=hid hk2
 have HK3:=hid hk3
 have HS1:=hid hs1
 have HBB3:=hid hb0
 have HSZ3:=hid hsz
 clear hb0 hsz hz hW3 hkm hkf hk2 hk3 hs1
 refine (HEB.out _ (s+2) A1 c1 (by have:=HSZ3.out;omega) HS1.out).mono ?_
 rintro e w4 ⟨Ao,co,rfl,hso,hb⟩
 have hkm:=HKM.out.below hb HKM.out.lt
 have hkf:=HKF.out.below hb HKF.out.lt
 have hk2:=HK2.out.below hb HK2.out.lt
 have hk3:=HK3.out.below hb HK3.out.lt
 have hs1:=HS1.out.below hb
 have hb0:Below s w w4:=HBB3.out.trans (hb.mono (by have:=HBB3.out.size;omega))
 have HKM:=hid hkm
 have HKF:=hid hkf
 have HK2:=hid hk2
 have HK3:=hid hk3
 have HS1:=hid hs1
 have HSO:=hid hso
 have HBB4:=hid hb0
 clear hb0 hb hkm hkf hk2 hk3 hs1 hso
 have zhk20:=HK2.out.cell 0
 have zhk21:=HK2.out.cell 1
 have zhk22:=HK2.out.cell 2
 have zhk23:=HK2.out.cell 3
 have zhk24:=HK2.out.cell 4
 have zhk25:=HK2.out.cell 5
 have zhk26:=HK2.out.cell 6
 have zhk27:=HK2.out.cell 7
 have zhk28:=HK2.out.cell 8
 have zhk29:=HK2.out.cell 9
 have lhk2:=HK2.out.lt
 have zhkm0:=HKM.out.cell 0
 have zhkm1:=HKM.out.cell 1
 have zhkm2:=HKM.out.cell 2
 have zhkm3:=HKM.out.cell 3
 have zhkm4:=HKM.out.cell 4
 have zhkm5:=HKM.out.cell 5
 have zhkm6:=HKM.out.cell 6
 have zhkm7:=HKM.out.cell 7
 have zhkm8:=HKM.out.cell 8
 have zhkm9:=HKM.out.cell 9
 have lhkm:=HKM.out.lt
 have zhkf0:=HKF.out.cell 0
 have zhkf1:=HKF.out.cell 1
 have lhkf:=HKF.out.lt
 simp only [gA,gB,gC] at zhk20 zhk21 zhk22 zhk23 zhk24 zhk25 zhk26 zhk27 zhk28 zhk29 zhkm0 zhkm1 zhkm2 zhkm3 zhkm4 zhkm5 zhkm6 zhkm7 zhkm8 zhkm9 zhkf0 zhkf1
 have fm0:=HKM.out.frozen 0
 have fm1:=HKM.out.frozen 1
 have fm2:=HKM.out.frozen 2
 have fm3:=HKM.out.frozen 3
 have fm4:=HKM.out.frozen 4
 have fm5:=HKM.out.frozen 5
 have fm6:=HKM.out.frozen 6
 have fm7:=HKM.out.frozen 7
 have fm8:=HKM.out.frozen 8
 have fm9:=HKM.out.frozen 9
 have ff0:=HKF.out.frozen 0
 have ff1:=HKF.out.frozen 1
 obtain ⟨p3,hz⟩:∃ p,w4.heap.size=p:=⟨_,rfl⟩
 rw [hz] at lhk2
 rw [hz] at lhkm
 rw [hz] at lhkf
 have n1:¬ s=p3:=by omega
 have n2:¬ s+1=p3:=by omega
 have n3:¬ p2=p3:=by omega
 have n4:¬ s=s+1:=by omega
 have n5:¬ s+1=s:=by omega
 have n6:¬ p3=s:=by omega
 have n7:¬ p3=s+1:=by omega
 go_wp2_with fail
 obtain ⟨r6,r8,rc⟩:=rst2 (by omega) HKM.out HKF.out (.int .u8 (M.k:Int)) (.int .u64 (M.n0:Int)) (.int .u64 (M.n1:Int)) (.int .u64 (M.n2:Int)) (.int .u64 (M.n3:Int)) (.int .u64 (M.n4:Int)) (.int .u64 (M.n5:Int)) (.string M.s0) (.string M.s1) (.slice A1 M.l.length c1) (.int .i64 0) (.int .i64 0)
 unfold rW2 at r6 r8 rc
 clear lhk2 lhkm lhkf zhk20 zhk21 zhk22 zhk23 zhk24 zhk25 zhk26 zhk27 zhk28 zhk29 zhkm0 zhkm1 zhkm2 zhkm3 zhkm4 zhkm5 zhkm6 zhkm7 zhkm8 zhkm9 zhkf0 zhkf1 fm0 fm1 fm2 fm3 fm4 fm5 fm6 fm7 fm8 fm9 ff0 ff1
 first | generalize World.setCell (World.setCell (World.setCell (World.setCell (World.setCell (World.setCell (World.setCell (World.setCell (World.setCell (World.setCell (World.setCell (World.setCell w4 _ _) _ _) _ _) _ _) _ _) _ _) _ _) _ _) _ _) _ _) _ _) _ _=W9 at * | trace_state
 have rc:=rc.alloc (.cells #[.int .i64 0,.int .i64 0] 32)
 have r6:=r6.alloc (.cells #[.int .i64 0,.int .i64 0] 32)
 have r8:=r8.alloc (.cells #[.int .i64 0,.int .i64 0] 32)
 have hbR:=HBB4.out.trans (rc.below (B:=s) (fun q hq=>by omega) (by have:=HKM.out.lt;omega))
 have x0:=r6.cell 0
 have x1:=r6.cell 1
 have x2:=r6.cell 2
 have x3:=r6.cell 3
 have x4:=r6.cell 4
 have x5:=r6.cell 5
 have x6:=r6.cell 6
 have x7:=r6.cell 7
 have x8:=r6.cell 8
 have x9:=r6.cell 9
 have y0:=r8.cell 0
 have y1:=r8.cell 1
 simp only [gA,gB,gC] at x0 x1 x2 x3 x4 x5 x6 x7 x8 x9 y0 y1
 refine bodyPost_ret (v:=.tuple #[.agg #[.int .u8 (M.k:Int),.int .u64 (M.n0:Int),.int .u64 (M.n1:Int),.int .u64 (M.n2:Int),.int .u64 (M.n3:Int),.int .u64 (M.n4:Int),.int .u64 (M.n5:Int),.string M.s0,.string M.s1,.slice A1 M.l.length c1],.slice Ao eb.length co,.agg #[.int .i64 0,.int .i64 0]]) (by simp [results,Tryz.results13,go_sem,x0,x1,x2,x3,x4,x5,x6,x7,x8,x9,y0,y1]) rfl ?_
 exact HQ.out _ _ _ _ _ (HS1.out.chg rc (fun q hq=>by omega)) (HSO.out.chg rc (fun q hq=>by omega)) hbR
theorem tread_any (k:Nat) (v:Int) (bs:List UInt8) (n:Nat) (A:Option Addr) (c:Nat) (w:World) (hk:k<=255) (hv1 : -9223372036854775808<=v) (hv2:v<=9223372036854775807) (hn:bs.length=n) (hs:Sl w A c (bs.map bv)):Calls Tryz.prog 13 #[.int .u8 (k:Int),.int .i64 v,.slice A n c] w (TrdR w (strR k v bs)):=by
 rcases str_ways k v bs with ⟨E,P,hE,hr,h1,-⟩ | ⟨M,O,hr,hg,hL,hc,h1,-⟩
 ·rw [h1];exact tread_bad k v bs n A c w hk hv1 hv2 hn hs hE hr
 ·rw [h1];exact tread_good k v bs n A c w hk hv1 hv2 hn hs hr hg hc
def TdB2 (s p2:Nat) (E P:Int) (a0:Act) (w0:World) (f:Nat->Bool) (a:Act) (w:World):Prop:=∃ x0 x1:Value,a=((a0.put (some 23) x0).put (some 24) x1)/\(f 0=true->x0=.agg #[.int .u8 0,.int .u64 0,.int .u64 0,.int .u64 0,.int .u64 0,.int .u64 0,.int .u64 0,.string ⟨#[]⟩,.string ⟨#[]⟩,.slice none 0 0])/\(f 1=true->x1=.agg #[.int .i64 E,.int .i64 P])/\Blk w (s) 29 (if f 2=true then #[.int .u8 0,.int .u64 0,.int .u64 0,.int .u64 0,.int .u64 0,.int .u64 0,.int .u64 0,.string ⟨#[]⟩,.string ⟨#[]⟩,.slice none 0 0] else #[.int .u8 0,.int .u64 0,.int .u64 0,.int .u64 0,.int .u64 0,.int .u64 0,.int .u64 0,.string ⟨#[]⟩,.string ⟨#[]⟩,.slice none 0 0])/\Blk w (s+1) 32 (if f 3=true then #[.int .i64 E,.int .i64 P] else #[.int .i64 0,.int .i64 0])/\Chg (fun q=>q=s\/q=s+1) w0 w
theorem tdec_bad (k:Nat) (v:Int) (bs:List UInt8) (n:Nat) (A:Option Addr) (c:Nat) (w:World) (hk:k<=255) (hv1 : -9223372036854775808<=v) (hv2:v<=9223372036854775807) (hn:bs.length=n) (hs:Sl w A c (bs.map bv)) {E:Int} {P:Nat} (hE:E ≠ 0) (hr:readR k v bs=(ZM,[],E,P)) :
  Calls Tryz.prog 6 #[.int .u8 (k:Int),.int .i64 v,.slice A n c] w (TdcR w (ZM,E,P)):=by
 have hd:=fun W (hW:Below w.heap.size w W)=>tread_bad k v bs n A c W hk hv1 hv2 hn (hs.below hW) hE hr
 obtain ⟨Q,hQ⟩:∃ Q,Q=TdcR w (ZM,E,P):=⟨_,rfl⟩
 rw [<-hQ]
 obtain ⟨s,hws⟩:∃ s,w.heap.size=s:=⟨_,rfl⟩
 have hz:=hws
 have hq:∀ w',Below s w w'->Q (.returned (.tuple #[.agg #[.int .u8 0,.int .u64 0,.int .u64 0,.int .u64 0,.int .u64 0,.int .u64 0,.int .u64 0,.string ⟨#[]⟩,.string ⟨#[]⟩,.slice none 0 0],.agg #[.int .i64 E,.int .i64 (P:Int)]])) w':=fun w' h=>by rw [hQ];exact ⟨none,0,rfl,Ow.nil_ _ _ _,by rw [hz];exact h⟩
 rw [hz] at hd
 have hd2:∀ W,Below s w W->Calls Tryz.prog 13 #[.int .u8 (k:Int),.int .i64 v,.slice A n c] W fun e w'=>∃ (A':Option Addr) (c':Nat) (Ao:Option Addr) (co:Nat),e=.returned (.tuple #[.agg #[.int .u8 (ZM.k:Int),.int .u64 (ZM.n0:Int),.int .u64 (ZM.n1:Int),.int .u64 (ZM.n2:Int),.int .u64 (ZM.n3:Int),.int .u64 (ZM.n4:Int),.int .u64 (ZM.n5:Int),.string ZM.s0,.string ZM.s1,.slice A' ZM.l.length c'],.slice Ao 0 co,.agg #[.int .i64 E,.int .i64 (P:Int)]])/\Below W.heap.size W w':=fun W hW=>(hd W hW).mono (by rintro e w' ⟨A',c',Ao,co,he,-,-,hb⟩;exact ⟨A',c',Ao,co,he,hb⟩)
 generalize ((P:Nat):Int)=P at *
 have gb:(E != 0)=true:=by simpa using hE
 have HQ:=hid hq
 have HD:=hid hd2
 have HE:=hid hE
 clear hq hd hd2 hQ hs hn hr hE
 go_enter Tryz.func6,Tryz.ntmps6
 go_wp2_with fail
 have hkm:Blk ((w.alloc (.cells #[.int .u8 0,.int .u64 0,.int .u64 0,.int .u64 0,.int .u64 0,.int .u64 0,.int .u64 0,.string ⟨#[]⟩,.string ⟨#[]⟩,.slice none 0 0] 29)).alloc (.cells #[.int .i64 0,.int .i64 0] 32)) (s) 29 #[.int .u8 0,.int .u64 0,.int .u64 0,.int .u64 0,.int .u64 0,.int .u64 0,.int .u64 0,.string ⟨#[]⟩,.string ⟨#[]⟩,.slice none 0 0]:=by
  have h:=((Blk.new w 29 #[.int .u8 0,.int .u64 0,.int .u64 0,.int .u64 0,.int .u64 0,.int .u64 0,.int .u64 0,.string ⟨#[]⟩,.string ⟨#[]⟩,.slice none 0 0]).alloc (.cells #[.int .i64 0,.int .i64 0] 32))
  rw [hz] at h;exact h
 have hkf:Blk ((w.alloc (.cells #[.int .u8 0,.int .u64 0,.int .u64 0,.int .u64 0,.int .u64 0,.int .u64 0,.int .u64 0,.string ⟨#[]⟩,.string ⟨#[]⟩,.slice none 0 0] 29)).alloc (.cells #[.int .i64 0,.int .i64 0] 32)) (s+1) 32 #[.int .i64 0,.int .i64 0]:=by
  have h:=(Blk.new (w.alloc (.cells #[.int .u8 0,.int .u64 0,.int .u64 0,.int .u64 0,.int .u64 0,.int .u64 0,.int .u64 0,.string ⟨#[]⟩,.string ⟨#[]⟩,.slice none 0 0] 29)) 32 #[.int .i64 0,.int .i64 0])
  rw [World.size_alloc,hz] at h;exact h
 have hb0:Below s w ((w.alloc (.cells #[.int .u8 0,.int .u64 0,.int .u64 0,.int .u64 0,.int .u64 0,.int .u64 0,.int .u64 0,.string ⟨#[]⟩,.string ⟨#[]⟩,.slice none 0 0] 29)).alloc (.cells #[.int .i64 0,.int .i64 0] 32)):=by
  have h:=(bw_a (bw_a (Below.refl w.heap.size w) (.cells #[.int .u8 0,.int .u64 0,.int .u64 0,.int .u64 0,.int .u64 0,.int .u64 0,.int .u64 0,.string ⟨#[]⟩,.string ⟨#[]⟩,.slice none 0 0] 29)) (.cells #[.int .i64 0,.int .i64 0] 32))
  rw [hz] at h;exact h
 have hsz:(((w.alloc (.cells #[.int .u8 0,.int .u64 0,.int .u64 0,.int .u64 0,.int .u64 0,.int .u64 0,.int .u64 0,.string ⟨#[]⟩,.string ⟨#[]⟩,.slice none 0 0] 29)).alloc (.cells #[.int .i64 0,.int .i64 0] 32))).heap.size=s+1+1:=by simp [hz]
 generalize hW1:((w.alloc (.cells #[.int .u8 0,.int .u64 0,.int .u64 0,.int .u64 0,.int .u64 0,.int .u64 0,.int .u64 0,.string ⟨#[]⟩,.string ⟨#[]⟩,.slice none 0 0] 29)).alloc (.cells #[.int .i64 0,.int .i64 0] 32))=W1 at *
 have HKM:=hid hkm
 have HKF:=hid hkf
 have HBB1:=hid hb0
 have HSZ1:=hid hsz
 clear hb0 hsz hz hW1 hkm hkf
 refine (HD.out _ HBB1.out).mono ?_
 rintro e w2 ⟨A1,c1,Ao,co,rfl,hb⟩
 have hkm:=HKM.out.below hb HKM.out.lt
 have hkf:=HKF.out.below hb HKF.out.lt
 have hb0:Below s w w2:=HBB1.out.trans (hb.mono (by have:=HBB1.out.size;omega))
 have HKM:=hid hkm
 have HKF:=hid hkf
 have HBB2:=hid hb0
 clear hb0 hb hkm hkf
 have lm:=HKM.out.lt
 have lf:=HKF.out.lt
 obtain ⟨p2,hz⟩:∃ p,w2.heap.size=p:=⟨_,rfl⟩
 rw [hz] at lm lf
 go_wp2_with fail
 have hk2:Blk ((w2.alloc (.cells #[.int .u8 (ZM.k:Int),.int .u64 (ZM.n0:Int),.int .u64 (ZM.n1:Int),.int .u64 (ZM.n2:Int),.int .u64 (ZM.n3:Int),.int .u64 (ZM.n4:Int),.int .u64 (ZM.n5:Int),.string ZM.s0,.string ZM.s1,.slice A1 ZM.l.length c1] 29)).alloc (.cells #[.int .i64 E,.int .i64 P] 32)) (p2) 29 #[.int .u8 (ZM.k:Int),.int .u64 (ZM.n0:Int),.int .u64 (ZM.n1:Int),.int .u64 (ZM.n2:Int),.int .u64 (ZM.n3:Int),.int .u64 (ZM.n4:Int),.int .u64 (ZM.n5:Int),.string ZM.s0,.string ZM.s1,.slice A1 ZM.l.length c1]:=by
  have h:=((Blk.new w2 29 #[.int .u8 (ZM.k:Int),.int .u64 (ZM.n0:Int),.int .u64 (ZM.n1:Int),.int .u64 (ZM.n2:Int),.int .u64 (ZM.n3:Int),.int .u64 (ZM.n4:Int),.int .u64 (ZM.n5:Int),.string ZM.s0,.string ZM.s1,.slice A1 ZM.l.length c1]).alloc (.cells #[.int .i64 E,.int .i64 P] 32))
  rw [hz] at h;exact h
 have hk3:Blk ((w2.alloc (.cells #[.int .u8 (ZM.k:Int),.int .u64 (ZM.n0:Int),.int .u64 (ZM.n1:Int),.int .u64 (ZM.n2:Int),.int .u64 (ZM.n3:Int),.int .u64 (ZM.n4:Int),.int .u64 (ZM.n5:Int),.string ZM.s0,.string ZM.s1,.slice A1 ZM.l.length c1] 29)).alloc (.cells #[.int .i64 E,.int .i64 P] 32)) (p2+1) 32 #[.int .i64 E,.int .i64 P]:=by
  have h:=(Blk.new (w2.alloc (.cells #[.int .u8 (ZM.k:Int),.int .u64 (ZM.n0:Int),.int .u64 (ZM.n1:Int),.int .u64 (ZM.n2:Int),.int .u64 (ZM.n3:Int),.int .u64 (ZM.n4:Int),.int .u64 (ZM.n5:Int),.string ZM.s0,.string ZM.s1,.slice A1 ZM.l.length c1] 29)) 32 #[.int .i64 E,.int .i64 P])
  rw [World.size_alloc,hz] at h;exact h
 have hkm:=((HKM.out.alloc (.cells #[.int .u8 (ZM.k:Int),.int .u64 (ZM.n0:Int),.int .u64 (ZM.n1:Int),.int .u64 (ZM.n2:Int),.int .u64 (ZM.n3:Int),.int .u64 (ZM.n4:Int),.int .u64 (ZM.n5:Int),.string ZM.s0,.string ZM.s1,.slice A1 ZM.l.length c1] 29)).alloc (.cells #[.int .i64 E,.int .i64 P] 32))
 have hkf:=((HKF.out.alloc (.cells #[.int .u8 (ZM.k:Int),.int .u64 (ZM.n0:Int),.int .u64 (ZM.n1:Int),.int .u64 (ZM.n2:Int),.int .u64 (ZM.n3:Int),.int .u64 (ZM.n4:Int),.int .u64 (ZM.n5:Int),.string ZM.s0,.string ZM.s1,.slice A1 ZM.l.length c1] 29)).alloc (.cells #[.int .i64 E,.int .i64 P] 32))
 have hb0:Below s w ((w2.alloc (.cells #[.int .u8 (ZM.k:Int),.int .u64 (ZM.n0:Int),.int .u64 (ZM.n1:Int),.int .u64 (ZM.n2:Int),.int .u64 (ZM.n3:Int),.int .u64 (ZM.n4:Int),.int .u64 (ZM.n5:Int),.string ZM.s0,.string ZM.s1,.slice A1 ZM.l.length c1] 29)).alloc (.cells #[.int .i64 E,.int .i64 P] 32)):=HBB2.out.trans ((bw_a (bw_a (Below.refl w2.heap.size w2) (.cells #[.int .u8 (ZM.k:Int),.int .u64 (ZM.n0:Int),.int .u64 (ZM.n1:Int),.int .u64 (ZM.n2:Int),.int .u64 (ZM.n3:Int),.int .u64 (ZM.n4:Int),.int .u64 (ZM.n5:Int),.string ZM.s0,.string ZM.s1,.slice A1 ZM.l.length c1] 29)) (.cells #[.int .i64 E,.int .i64 P] 32)).mono (by have:=HBB2.out.size;omega))
 have hsz:(((w2.alloc (.cells #[.int .u8 (ZM.k:Int),.int .u64 (ZM.n0:Int),.int .u64 (ZM.n1:Int),.int .u64 (ZM.n2:Int),.int .u64 (ZM.n3:Int),.int .u64 (ZM.n4:Int),.int .u64 (ZM.n5:Int),.string ZM.s0,.string ZM.s1,.slice A1 ZM.l.length c1] 29)).alloc (.cells #[.int .i64 E,.int .i64 P] 32))).heap.size=p2+1+1:=by simp [hz]
 generalize hW3:((w2.alloc (.cells #[.int .u8 (ZM.k:Int),.int .u64 (ZM.n0:Int),.int .u64 (ZM.n1:Int),.int .u64 (ZM.n2:Int),.int .u64 (ZM.n3:Int),.int .u64 (ZM.n4:Int),.int .u64 (ZM.n5:Int),.string ZM.s0,.string ZM.s1,.slice A1 ZM.l.length c1] 29)).alloc (.cells #[.int .i64 E,.int .i64 P] 32))=W3 at *
 have HKM:=hid hkm
 have HKF:=hid hkf
 have HK2:=hid hk2
 have HK3:=hid hk3
 have HBB3:=hid hb0
 have HSZ3:=hid hsz
 clear hb0 hsz hz hW3 hkm hkf hk2 hk3
 refine wp_region_invB (by kernel_rfl) (by kernel_rfl) (TdB2 s p2 E P) ?_ ?_ ?_
 ·exact ⟨undef,undef,(by first | (simp only [Act.put,gD,gE,gF];done) | rfl),by simp,by simp,(by simp;exact (HKM.out)),(by simp;exact (HKF.out)),⟨rfl,rfl,rfl,Nat.le_refl _,fun _ _ _=>rfl⟩⟩
 ·intro f a' wx i o ho hf hdep hI
  have hi:i < 4:=(Array.getElem?_eq_some_iff.1 ho).1
  have hcase:i=0\/i=1\/i=2\/i=3:=by omega
  clear hi
  rcases hcase with rfl | rfl | rfl | rfl
  all_goals
   simp only [gA,gB,gC,Option.some.injEq] at ho
   subst ho
  ·skip
   obtain ⟨x0,x1,rfl,h0,h1,k2,k3,hC⟩:=hI
   have H0':=hid h0;have H1':=hid h1;have K2':=hid k2;have K3':=hid k3;have HC':=hid hC;clear h0 h1 k2 k3 hC
   try simp only [Act.put,gD,gE,gF]
   go_wp2_with fail
   have h0:=H0'.out;have h1:=H1'.out;have k2:=K2'.out;have k3:=K3'.out;have hC:=HC'.out
   exact ⟨_,x1,(by first | (simp only [Act.put,gD,gE,gF];done) | rfl),(fun _=>rfl),(fun h=>h1 (by simpa using h)),(by simpa using k2),(by simpa using k3),hC⟩
  ·skip
   obtain ⟨x0,x1,rfl,h0,h1,k2,k3,hC⟩:=hI
   have hb:=hC.blk HK3.out (by omega)
   have t0:=hb.cell 0
   have t1:=hb.cell 1
   simp only [gA,gB,gC] at t0 t1
   clear hb
   have H0':=hid h0;have H1':=hid h1;have K2':=hid k2;have K3':=hid k3;have HC':=hid hC;clear h0 h1 k2 k3 hC
   try simp only [Act.put,gD,gE,gF]
   go_wp2_with fail
   have h0:=H0'.out;have h1:=H1'.out;have k2:=K2'.out;have k3:=K3'.out;have hC:=HC'.out
   exact ⟨x0,_,(by first | (simp only [Act.put,gD,gE,gF];done) | rfl),(fun h=>h0 (by simpa using h)),(fun _=>rfl),(by simpa using k2),(by simpa using k3),hC⟩
  ·skip
   obtain ⟨x0,x1,rfl,h0,h1,k2,k3,hC⟩:=hI
   simp [Region.binds] at hdep
   obtain rfl:=h0 (by first | exact hdep | exact hdep.1 | exact hdep.2 | exact hdep.2.1 | exact hdep.2.2 | exact hdep.2.2.1 | exact hdep.2.2.2 | simp_all)
   have hko:Blk wx (s) 29 #[.int .u8 0,.int .u64 0,.int .u64 0,.int .u64 0,.int .u64 0,.int .u64 0,.int .u64 0,.string ⟨#[]⟩,.string ⟨#[]⟩,.slice none 0 0]:=by have h:=k2;rw [hf] at h;simpa using h
   have y0:=hko.cell 0;have z0:=hko.frozen 0
   have y1:=hko.cell 1;have z1:=hko.frozen 1
   have y2:=hko.cell 2;have z2:=hko.frozen 2
   have y3:=hko.cell 3;have z3:=hko.frozen 3
   have y4:=hko.cell 4;have z4:=hko.frozen 4
   have y5:=hko.cell 5;have z5:=hko.frozen 5
   have y6:=hko.cell 6;have z6:=hko.frozen 6
   have y7:=hko.cell 7;have z7:=hko.frozen 7
   have y8:=hko.cell 8;have z8:=hko.frozen 8
   have y9:=hko.cell 9;have z9:=hko.frozen 9
   simp only [gA,gB,gC] at y0 y1 y2 y3 y4 y5 y6 y7 y8 y9
   have HKO:=hid hko;clear hko
   have H0':=hid h0;have H1':=hid h1;have K2':=hid k2;have K3':=hid k3;have HC':=hid hC;clear h0 h1 k2 k3 hC
   try simp only [Act.put,gD,gE,gF]
   go_wp2_with fail
   have h0:=H0'.out;have h1:=H1'.out;have k2:=K2'.out;have k3:=K3'.out;have hC:=HC'.out
   obtain ⟨hkn,hcn⟩:=mstore HKO.out _ _ _ _ _ _ _ _ _ _
   exact ⟨_,x1,(by first | (simp only [Act.put,gD,gE,gF];done) | rfl),(fun _=>rfl),(fun h=>h1 (by simpa using h)),(by simpa using hkn),(hcn.blk (by simpa using k3) (by omega)),(hC.trans (hcn.mono (fun q _ hq=>by subst hq;simp)))⟩
  ·skip
   obtain ⟨x0,x1,rfl,h0,h1,k2,k3,hC⟩:=hI
   simp [Region.binds] at hdep
   obtain rfl:=h1 (by first | exact hdep | exact hdep.1 | exact hdep.2 | exact hdep.2.1 | exact hdep.2.2 | exact hdep.2.2.1 | exact hdep.2.2.2 | simp_all)
   have hko:Blk wx (s+1) 32 #[.int .i64 0,.int .i64 0]:=by have h:=k3;rw [hf] at h;simpa using h
   have y0:=hko.cell 0;have z0:=hko.frozen 0
   have y1:=hko.cell 1;have z1:=hko.frozen 1
   simp only [gA,gB,gC] at y0 y1
   have HKO:=hid hko;clear hko
   have H0':=hid h0;have H1':=hid h1;have K2':=hid k2;have K3':=hid k3;have HC':=hid hC;clear h0 h1 k2 k3 hC
   try simp only [Act.put,gD,gE,gF]
   go_wp2_with fail
   have h0:=H0'.out;have h1:=H1'.out;have k2:=K2'.out;have k3:=K3'.out;have hC:=HC'.out
   obtain ⟨hkn,hcn⟩:=fstore HKO.out _ _
   exact ⟨x0,_,(by first | (simp only [Act.put,gD,gE,gF];done) | rfl),(fun h=>h0 (by simpa using h)),(fun _=>rfl),(hcn.blk (by simpa using k2) (by omega)),(by simpa using hkn),(hC.trans (hcn.mono (fun q _ hq=>by subst hq;simp)))⟩
 ·intro f a' wx hall hI
  obtain ⟨x0,x1,rfl,h0,h1,k2,k3,hC⟩:=hI
  obtain rfl:=h0 (hall 0 (by simp))
  obtain rfl:=h1 (hall 1 (by simp))
  have kf2:=k2;rw [hall 2 (by simp),if_pos rfl] at kf2
  have kf3:=k3;rw [hall 3 (by simp),if_pos rfl] at kf3
  clear h0 h1 k2 k3 hall f
  try simp only [Act.put,gD,gE,gF]
  go_wp2_with fail
  have r0:=kf2.cell 0
  have r1:=kf2.cell 1
  have r2:=kf2.cell 2
  have r3:=kf2.cell 3
  have r4:=kf2.cell 4
  have r5:=kf2.cell 5
  have r6:=kf2.cell 6
  have r7:=kf2.cell 7
  have r8:=kf2.cell 8
  have r9:=kf2.cell 9
  have y0:=kf3.cell 0
  have y1:=kf3.cell 1
  simp only [gA,gB,gC] at r0 r1 r2 r3 r4 r5 r6 r7 r8 r9 y0 y1
  have hbR:=HBB3.out.trans (hC.below (B:=s) (fun x hx=>by omega) (by have:=HKM.out.lt;omega))
  refine bodyPost_ret (v:=.tuple #[.agg #[.int .u8 0,.int .u64 0,.int .u64 0,.int .u64 0,.int .u64 0,.int .u64 0,.int .u64 0,.string ⟨#[]⟩,.string ⟨#[]⟩,.slice none 0 0],.agg #[.int .i64 E,.int .i64 P]]) (by simp [results,Tryz.results6,go_sem,r0,r1,r2,r3,r4,r5,r6,r7,r8,r9,y0,y1]) rfl ?_
  exact HQ.out _ hbR
theorem tdec_good (k:Nat) (v:Int) (bs:List UInt8) (n:Nat) (A:Option Addr) (c:Nat) (w:World) (hk:k<=255) (hv1 : -9223372036854775808<=v) (hv2:v<=9223372036854775807) (hn:bs.length=n) (hs:Sl w A c (bs.map bv)) {M:MV} {O:List (RF × Nat)} (hr:readR k v bs=(M,O,0,0)) (hg:Good k v M) (hc:chkV M (ofL (k:Int) v)=(0,0)) :
  Calls Tryz.prog 6 #[.int .u8 (k:Int),.int .i64 v,.slice A n c] w (TdcR w (if encB M (ofL (k:Int) v)=bs then (M,0,0) else (ZM,3,unl bs (encB M (ofL (k:Int) v))))):=by
 have hd:=fun W (hW:Below w.heap.size w W)=>tread_good k v bs n A c W hk hv1 hv2 hn (hs.below hW) hr hg hc
 obtain ⟨s,hws⟩:∃ s,w.heap.size=s:=⟨_,rfl⟩
 have hz:=hws
 generalize encB M (ofL (k:Int) v)=eb at *
 obtain ⟨Q,hQ⟩:∃ Q,Q=TdcR w (if eb=bs then (M,0,0) else (ZM,3,unl bs eb)):=⟨_,rfl⟩
 rw [<-hQ]
 have hq1:eb=bs->∀ A' c' w',Ow w' (s+2) 9 M.l.length A' c' (M.l.map sv)->Below s w w'->Q (.returned (.tuple #[.agg #[.int .u8 (M.k:Int),.int .u64 (M.n0:Int),.int .u64 (M.n1:Int),.int .u64 (M.n2:Int),.int .u64 (M.n3:Int),.int .u64 (M.n4:Int),.int .u64 (M.n5:Int),.string M.s0,.string M.s1,.slice A' M.l.length c'],.agg #[.int .i64 0,.int .i64 0]])) w':=fun he A' c' w' h1 h=>by rw [hQ,if_pos he];exact ⟨A',c',rfl,h1.mono (by omega),by rw [hz];exact h⟩
 obtain ⟨U,hU⟩:∃ U,unl bs eb=U:=⟨_,rfl⟩
 have hq2:eb ≠ bs->∀ w',Below s w w'->Q (.returned (.tuple #[.agg #[.int .u8 0,.int .u64 0,.int .u64 0,.int .u64 0,.int .u64 0,.int .u64 0,.int .u64 0,.string ⟨#[]⟩,.string ⟨#[]⟩,.slice none 0 0],.agg #[.int .i64 3,.int .i64 (U:Int)]])) w':=fun he w' h=>by rw [hQ,if_neg he,hU];exact ⟨none,0,rfl,Ow.nil_ _ _ _,by rw [hz];exact h⟩
 rw [hz] at hd
 obtain ⟨el,hel⟩:∃ el,eb.length=el:=⟨_,rfl⟩
 have hd2:∀ W,Below s w W->s+2<=W.heap.size->Calls Tryz.prog 13 #[.int .u8 (k:Int),.int .i64 v,.slice A n c] W fun e w'=>∃ (A':Option Addr) (c':Nat) (Ao:Option Addr) (co:Nat),e=.returned (.tuple #[.agg #[.int .u8 (M.k:Int),.int .u64 (M.n0:Int),.int .u64 (M.n1:Int),.int .u64 (M.n2:Int),.int .u64 (M.n3:Int),.int .u64 (M.n4:Int),.int .u64 (M.n5:Int),.string M.s0,.string M.s1,.slice A' M.l.length c'],.slice Ao el co,.agg #[.int .i64 0,.int .i64 0]])/\Ow w' (s+2) 9 M.l.length A' c' (M.l.map sv)/\Sl w' Ao co (eb.map bv)/\Below W.heap.size W w':=fun W hW hb2=>(hd W hW).mono (by rintro e w' ⟨A',c',Ao,co,he,h1,h2,hb⟩;simp only [hel] at he;exact ⟨A',c',Ao,co,he,h1.mono hb2,h2.sl,hb⟩)
 have hun:∀ W Ao co,Below s w W->Sl W Ao co (eb.map bv)->Calls Tryz.prog 14 #[.slice A n c,.slice Ao el co] W fun e w'=>e=.returned (.int .i64 (U:Int))/\Below W.heap.size W w':=fun W Ao co hW ho=>by
  have hs2:=hs.below (by rw [hz];exact hW)
  have g1:=hs2.cap;have g2:=hs2.small;have g3:=ho.cap;have g4:=ho.small
  rw [List.length_map] at g1 g3
  have h:=sunl_any bs eb n el A Ao c co W hn hel (by omega) (by omega) hs2.rd ho.rd
  rw [hU] at h
  refine h.mono ?_
  rintro e w' ⟨he,m,rfl⟩
  exact ⟨he,below_drewN (Below.refl _ W) m⟩
 have hmax:=unl_max bs eb
 have hle:=unl_le bs eb
 rw [hU,hn,hel] at hmax hle
 have HQ1:=hid hq1
 have HQ2:=hid hq2
 have HD:=hid hd2
 have HUN:=hid hun
 have HMX:=hid hmax
 have HLE:=hid hle
 have HN:=hid hn
 have HEL:=hid hel
 clear hq1 hq2 hd hd2 hQ hs hn hr hg hc hun hmax hle hU hel
 go_enter Tryz.func6,Tryz.ntmps6
 go_wp2_with fail
 have hkm:Blk ((w.alloc (.cells #[.int .u8 0,.int .u64 0,.int .u64 0,.int .u64 0,.int .u64 0,.int .u64 0,.int .u64 0,.string ⟨#[]⟩,.string ⟨#[]⟩,.slice none 0 0] 29)).alloc (.cells #[.int .i64 0,.int .i64 0] 32)) (s) 29 #[.int .u8 0,.int .u64 0,.int .u64 0,.int .u64 0,.int .u64 0,.int .u64 0,.int .u64 0,.string ⟨#[]⟩,.string ⟨#[]⟩,.slice none 0 0]:=by
  have h:=((Blk.new w 29 #[.int .u8 0,.int .u64 0,.int .u64 0,.int .u64 0,.int .u64 0,.int .u64 0,.int .u64 0,.string ⟨#[]⟩,.string ⟨#[]⟩,.slice none 0 0]).alloc (.cells #[.int .i64 0,.int .i64 0] 32))
  rw [hz] at h;exact h
 have hkf:Blk ((w.alloc (.cells #[.int .u8 0,.int .u64 0,.int .u64 0,.int .u64 0,.int .u64 0,.int .u64 0,.int .u64 0,.string ⟨#[]⟩,.string ⟨#[]⟩,.slice none 0 0] 29)).alloc (.cells #[.int .i64 0,.int .i64 0] 32)) (s+1) 32 #[.int .i64 0,.int .i64 0]:=by
  have h:=(Blk.new (w.alloc (.cells #[.int .u8 0,.int .u64 0,.int .u64 0,.int .u64 0,.int .u64 0,.int .u64 0,.int .u64 0,.string ⟨#[]⟩,.string ⟨#[]⟩,.slice none 0 0] 29)) 32 #[.int .i64 0,.int .i64 0])
  rw [World.size_alloc,hz] at h;exact h
 have hb0:Below s w ((w.alloc (.cells #[.int .u8 0,.int .u64 0,.int .u64 0,.int .u64 0,.int .u64 0,.int .u64 0,.int .u64 0,.string ⟨#[]⟩,.string ⟨#[]⟩,.slice none 0 0] 29)).alloc (.cells #[.int .i64 0,.int .i64 0] 32)):=by
  have h:=(bw_a (bw_a (Below.refl w.heap.size w) (.cells #[.int .u8 0,.int .u64 0,.int .u64 0,.int .u64 0,.int .u64 0,.int .u64 0,.int .u64 0,.string ⟨#[]⟩,.string ⟨#[]⟩,.slice none 0 0] 29)) (.cells #[.int .i64 0,.int .i64 0] 32))
  rw [hz] at h;exact h
 have hsz:(((w.alloc (.cells #[.int .u8 0,.int .u64 0,.int .u64 0,.int .u64 0,.int .u64 0,.int .u64 0,.int .u64 0,.string ⟨#[]⟩,.string ⟨#[]⟩,.slice none 0 0] 29)).alloc (.cells #[.int .i64 0,.int .i64 0] 32))).heap.size=s+1+1:=by simp [hz]
 generalize hW1:((w.alloc (.cells #[.int .u8 0,.int .u64 0,.int .u64 0,.int .u64 0,.int .u64 0,.int .u64 0,.int .u64 0,.string ⟨#[]⟩,.string ⟨#[]⟩,.slice none 0 0] 29)).alloc (.cells #[.int .i64 0,.int .i64 0] 32))=W1 at *
 have HKM:=hid hkm
 have HKF:=hid hkf
 have HBB1:=hid hb0
 have HSZ1:=hid hsz
 clear hb0 hsz hz hW1 hkm hkf
 refine (HD.out _ HBB1.out (by have:=HSZ1.out;omega)).mono ?_
 rintro e w2 ⟨A1,c1,Ao,co,rfl,hs1,hso,hb⟩
 have hkm:=HKM.out.below hb HKM.out.lt
 have hkf:=HKF.out.below hb HKF.out.lt
 have hb0:Below s w w2:=HBB1.out.trans (hb.mono (by have:=HBB1.out.size;omega))
 have HKM:=hid hkm
 have HKF:=hid hkf
 have HS1:=hid hs1
 have HSO:=hid hso
 have HBB2:=hid hb0
 clear hb0 hb hkm hkf hs1 hso
 have lm:=HKM.out.lt
 have lf:=HKF.out.lt
 obtain ⟨p2,hz⟩:∃ p,w2.heap.size=p:=⟨_,rfl⟩
 rw [hz] at lm lf
 go_wp2_with fail
 have hk2:Blk ((w2.alloc (.cells #[.int .u8 (M.k:Int),.int .u64 (M.n0:Int),.int .u64 (M.n1:Int),.int .u64 (M.n2:Int),.int .u64 (M.n3:Int),.int .u64 (M.n4:Int),.int .u64 (M.n5:Int),.string M.s0,.string M.s1,.slice A1 M.l.length c1] 29)).alloc (.cells #[.int .i64 0,.int .i64 0] 32)) (p2) 29 #[.int .u8 (M.k:Int),.int .u64 (M.n0:Int),.int .u64 (M.n1:Int),.int .u64 (M.n2:Int),.int .u64 (M.n3:Int),.int .u64 (M.n4:Int),.int .u64 (M.n5:Int),.string M.s0,.string M.s1,.slice A1 M.l.length c1]:=by
  have h:=((Blk.new w2 29 #[.int .u8 (M.k:Int),.int .u64 (M.n0:Int),.int .u64 (M.n1:Int),.int .u64 (M.n2:Int),.int .u64 (M.n3:Int),.int .u64 (M.n4:Int),.int .u64 (M.n5:Int),.string M.s0,.string M.s1,.slice A1 M.l.length c1]).alloc (.cells #[.int .i64 0,.int .i64 0] 32))
  rw [hz] at h;exact h
 have hk3:Blk ((w2.alloc (.cells #[.int .u8 (M.k:Int),.int .u64 (M.n0:Int),.int .u64 (M.n1:Int),.int .u64 (M.n2:Int),.int .u64 (M.n3:Int),.int .u64 (M.n4:Int),.int .u64 (M.n5:Int),.string M.s0,.string M.s1,.slice A1 M.l.length c1] 29)).alloc (.cells #[.int .i64 0,.int .i64 0] 32)) (p2+1) 32 #[.int .i64 0,.int .i64 0]:=by
  have h:=(Blk.new (w2.alloc (.cells #[.int .u8 (M.k:Int),.int .u64 (M.n0:Int),.int .u64 (M.n1:Int),.int .u64 (M.n2:Int),.int .u64 (M.n3:Int),.int .u64 (M.n4:Int),.int .u64 (M.n5:Int),.string M.s0,.string M.s1,.slice A1 M.l.length c1] 29)) 32 #[.int .i64 0,.int .i64 0])
  rw [World.size_alloc,hz] at h;exact h
 have hkm:=((HKM.out.alloc (.cells #[.int .u8 (M.k:Int),.int .u64 (M.n0:Int),.int .u64 (M.n1:Int),.int .u64 (M.n2:Int),.int .u64 (M.n3:Int),.int .u64 (M.n4:Int),.int .u64 (M.n5:Int),.string M.s0,.string M.s1,.slice A1 M.l.length c1] 29)).alloc (.cells #[.int .i64 0,.int .i64 0] 32))
 have hkf:=((HKF.out.alloc (.cells #[.int .u8 (M.k:Int),.int .u64 (M.n0:Int),.int .u64 (M.n1:Int),.int .u64 (M.n2:Int),.int .u64 (M.n3:Int),.int .u64 (M.n4:Int),.int .u64 (M.n5:Int),.string M.s0,.string M.s1,.slice A1 M.l.length c1] 29)).alloc (.cells #[.int .i64 0,.int .i64 0] 32))
 have hs1:=HS1.out.below (bw_a (bw_a (Below.refl w2.heap.size w2) (.cells #[.int .u8 (M.k:Int),.int .u64 (M.n0:Int),.int .u64 (M.n1:Int),.int .u64 (M.n2:Int),.int .u64 (M.n3:Int),.int .u64 (M.n4:Int),.int .u64 (M.n5:Int),.string M.s0,.string M.s1,.slice A1 M.l.length c1] 29)) (.cells #[.int .i64 0,.int .i64 0] 32))
 have hso:=HSO.out.below (bw_a (bw_a (Below.refl w2.heap.size w2) (.cells #[.int .u8 (M.k:Int),.int .u64 (M.n0:Int),.int .u64 (M.n1:Int),.int .u64 (M.n2:Int),.int .u64 (M.n3:Int),.int .u64 (M.n4:Int),.int .u64 (M.n5:Int),.string M.s0,.string M.s1,.slice A1 M.l.length c1] 29)) (.cells #[.int .i64 0,.int .i64 0] 32))
 have hb0:Below s w ((w2.alloc (.cells #[.int .u8 (M.k:Int),.int .u64 (M.n0:Int),.int .u64 (M.n1:Int),.int .u64 (M.n2:Int),.int .u64 (M.n3:Int),.int .u64 (M.n4:Int),.int .u64 (M.n5:Int),.string M.s0,.string M.s1,.slice A1 M.l.length c1] 29)).alloc (.cells #[.int .i64 0,.int .i64 0] 32)):=HBB2.out.trans ((bw_a (bw_a (Below.refl w2.heap.size w2) (.cells #[.int .u8 (M.k:Int),.int .u64 (M.n0:Int),.int .u64 (M.n1:Int),.int .u64 (M.n2:Int),.int .u64 (M.n3:Int),.int .u64 (M.n4:Int),.int .u64 (M.n5:Int),.string M.s0,.string M.s1,.slice A1 M.l.length c1] 29)) (.cells #[.int .i64 0,.int .i64 0] 32)).mono (by have:=HBB2.out.size;omega))
 have hsz:(((w2.alloc (.cells #[.int .u8 (M.k:Int),.int .u64 (M.n0:Int),.int .u64 (M.n1:Int),.int .u64 (M.n2:Int),.int .u64 (M.n3:Int),.int .u64 (M.n4:Int),.int .u64 (M.n5:Int),.string M.s0,.string M.s1,.slice A1 M.l.length c1] 29)).alloc (.cells #[.int .i64 0,.int .i64 0] 32))).heap.size=p2+1+1:=by simp [hz]
 generalize hW3:((w2.alloc (.cells #[.int .u8 (M.k:Int),.int .u64 (M.n0:Int),.int .u64 (M.n1:Int),.int .u64 (M.n2:Int),.int .u64 (M.n3:Int),.int .u64 (M.n4:Int),.int .u64 (M.n5:Int),.string M.s0,.string M.s1,.slice A1 M.l.length c1] 29)).alloc (.cells #[.int .i64 0,.int .i64 0] 32))=W3 at *
 have HKM:=hid hkm
 have HKF:=hid hkf
 have HK2:=hid hk2
 have HK3:=hid hk3
 have HS1:=hid hs1
 have HSO:=hid hso
 have HBB3:=hid hb0
 have HSZ3:=hid hsz
 clear hb0 hsz hz hW3 hkm hkf hk2 hk3 hs1 hso
 refine (HUN.out _ Ao co HBB3.out HSO.out).mono ?_
 rintro e w4 ⟨rfl,hb⟩
 have hkm:=HKM.out.below hb HKM.out.lt
 have hkf:=HKF.out.below hb HKF.out.lt
 have hk2:=HK2.out.below hb HK2.out.lt
 have hk3:=HK3.out.below hb HK3.out.lt
 have hs1:=HS1.out.below hb
 have hso:=HSO.out.below hb
 have hb0:Below s w w4:=HBB3.out.trans (hb.mono (by have:=HBB3.out.size;omega))
 have HKM:=hid hkm
 have HKF:=hid hkf
 have HK2:=hid hk2
 have HK3:=hid hk3
 have HS1:=hid hs1
 have HSO:=hid hso
 have HBB4:=hid hb0
 clear hb0 hb hkm hkf hk2 hk3 hs1 hso
 by_cases he:eb=bs
 ·have hmx:max (n:Int) (el:Int)=(n:Int)/\(U:Int)=(n:Int):=by
   have h1:=HMX.out;have h2:=HLE.out;have h3:=HN.out;have h4:=HEL.out
   subst he
   have:¬ U < max n el:=fun h=>(h1.1 h) rfl
   omega
  obtain ⟨hm1,hm2⟩:=hmx
  have HM1:=hid hm1
  have HM2:=hid hm2
  clear hm1 hm2
  have zhk20:=HK2.out.cell 0
  have zhk21:=HK2.out.cell 1
  have zhk22:=HK2.out.cell 2
  have zhk23:=HK2.out.cell 3
  have zhk24:=HK2.out.cell 4
  have zhk25:=HK2.out.cell 5
  have zhk26:=HK2.out.cell 6
  have zhk27:=HK2.out.cell 7
  have zhk28:=HK2.out.cell 8
  have zhk29:=HK2.out.cell 9
  have lhk2:=HK2.out.lt
  have zhkm0:=HKM.out.cell 0
  have zhkm1:=HKM.out.cell 1
  have zhkm2:=HKM.out.cell 2
  have zhkm3:=HKM.out.cell 3
  have zhkm4:=HKM.out.cell 4
  have zhkm5:=HKM.out.cell 5
  have zhkm6:=HKM.out.cell 6
  have zhkm7:=HKM.out.cell 7
  have zhkm8:=HKM.out.cell 8
  have zhkm9:=HKM.out.cell 9
  have lhkm:=HKM.out.lt
  have zhkf0:=HKF.out.cell 0
  have zhkf1:=HKF.out.cell 1
  have lhkf:=HKF.out.lt
  simp only [gA,gB,gC] at zhk20 zhk21 zhk22 zhk23 zhk24 zhk25 zhk26 zhk27 zhk28 zhk29 zhkm0 zhkm1 zhkm2 zhkm3 zhkm4 zhkm5 zhkm6 zhkm7 zhkm8 zhkm9 zhkf0 zhkf1
  have fm0:=HKM.out.frozen 0
  have fm1:=HKM.out.frozen 1
  have fm2:=HKM.out.frozen 2
  have fm3:=HKM.out.frozen 3
  have fm4:=HKM.out.frozen 4
  have fm5:=HKM.out.frozen 5
  have fm6:=HKM.out.frozen 6
  have fm7:=HKM.out.frozen 7
  have fm8:=HKM.out.frozen 8
  have fm9:=HKM.out.frozen 9
  have ff0:=HKF.out.frozen 0
  have ff1:=HKF.out.frozen 1
  have n1:¬ s=s+1:=by omega
  have n2:¬ s+1=s:=by omega
  have hd3:decide ((U:Int) < max (n:Int) (el:Int))=false:=by rw [HM1.out,HM2.out];simp
  have hd4:¬ (U:Int) < max (n:Int) (el:Int):=by rw [HM1.out,HM2.out];omega
  go_wp2_with fail
  obtain ⟨r6,r8,rc⟩:=rst2 (by omega) HKM.out HKF.out (.int .u8 (M.k:Int)) (.int .u64 (M.n0:Int)) (.int .u64 (M.n1:Int)) (.int .u64 (M.n2:Int)) (.int .u64 (M.n3:Int)) (.int .u64 (M.n4:Int)) (.int .u64 (M.n5:Int)) (.string M.s0) (.string M.s1) (.slice A1 M.l.length c1) (.int .i64 0) (.int .i64 0)
  unfold rW2 at r6 r8 rc
  clear lhk2 lhkm lhkf zhk20 zhk21 zhk22 zhk23 zhk24 zhk25 zhk26 zhk27 zhk28 zhk29 zhkm0 zhkm1 zhkm2 zhkm3 zhkm4 zhkm5 zhkm6 zhkm7 zhkm8 zhkm9 zhkf0 zhkf1 fm0 fm1 fm2 fm3 fm4 fm5 fm6 fm7 fm8 fm9 ff0 ff1
  first | generalize World.setCell (World.setCell (World.setCell (World.setCell (World.setCell (World.setCell (World.setCell (World.setCell (World.setCell (World.setCell (World.setCell (World.setCell w4 _ _) _ _) _ _) _ _) _ _) _ _) _ _) _ _) _ _) _ _) _ _) _ _=W9 at * | trace_state
  have hbR:=HBB4.out.trans (rc.below (B:=s) (fun q hq=>by omega) (by have:=HKM.out.lt;omega))
  have x0:=r6.cell 0
  have x1:=r6.cell 1
  have x2:=r6.cell 2
  have x3:=r6.cell 3
  have x4:=r6.cell 4
  have x5:=r6.cell 5
  have x6:=r6.cell 6
  have x7:=r6.cell 7
  have x8:=r6.cell 8
  have x9:=r6.cell 9
  have y0:=r8.cell 0
  have y1:=r8.cell 1
  simp only [gA,gB,gC] at x0 x1 x2 x3 x4 x5 x6 x7 x8 x9 y0 y1
  refine bodyPost_ret (v:=.tuple #[.agg #[.int .u8 (M.k:Int),.int .u64 (M.n0:Int),.int .u64 (M.n1:Int),.int .u64 (M.n2:Int),.int .u64 (M.n3:Int),.int .u64 (M.n4:Int),.int .u64 (M.n5:Int),.string M.s0,.string M.s1,.slice A1 M.l.length c1],.agg #[.int .i64 0,.int .i64 0]]) (by simp [results,Tryz.results6,go_sem,x0,x1,x2,x3,x4,x5,x6,x7,x8,x9,y0,y1]) rfl ?_
  exact HQ1.out he _ _ _ (HS1.out.chg rc (fun q hq=>by omega)) hbR
 ·have hlt:(U:Int) < max (n:Int) (el:Int):=by
   have h1:=HMX.out.2 (fun h=>he h.symm)
   omega
  have zhk20:=HK2.out.cell 0
  have zhk21:=HK2.out.cell 1
  have zhk22:=HK2.out.cell 2
  have zhk23:=HK2.out.cell 3
  have zhk24:=HK2.out.cell 4
  have zhk25:=HK2.out.cell 5
  have zhk26:=HK2.out.cell 6
  have zhk27:=HK2.out.cell 7
  have zhk28:=HK2.out.cell 8
  have zhk29:=HK2.out.cell 9
  have lhk2:=HK2.out.lt
  have zhkm0:=HKM.out.cell 0
  have zhkm1:=HKM.out.cell 1
  have zhkm2:=HKM.out.cell 2
  have zhkm3:=HKM.out.cell 3
  have zhkm4:=HKM.out.cell 4
  have zhkm5:=HKM.out.cell 5
  have zhkm6:=HKM.out.cell 6
  have zhkm7:=HKM.out.cell 7
  have zhkm8:=HKM.out.cell 8
  have zhkm9:=HKM.out.cell 9
  have lhkm:=HKM.out.lt
  have zhkf0:=HKF.out.cell 0
  have zhkf1:=HKF.out.cell 1
  have lhkf:=HKF.out.lt
  simp only [gA,gB,gC] at zhk20 zhk21 zhk22 zhk23 zhk24 zhk25 zhk26 zhk27 zhk28 zhk29 zhkm0 zhkm1 zhkm2 zhkm3 zhkm4 zhkm5 zhkm6 zhkm7 zhkm8 zhkm9 zhkf0 zhkf1
  have fm0:=HKM.out.frozen 0
  have fm1:=HKM.out.frozen 1
  have fm2:=HKM.out.frozen 2
  have fm3:=HKM.out.frozen 3
  have fm4:=HKM.out.frozen 4
  have fm5:=HKM.out.frozen 5
  have fm6:=HKM.out.frozen 6
  have fm7:=HKM.out.frozen 7
  have fm8:=HKM.out.frozen 8
  have fm9:=HKM.out.frozen 9
  have ff0:=HKF.out.frozen 0
  have ff1:=HKF.out.frozen 1
  have n1:¬ s=s+1:=by omega
  have n2:¬ s+1=s:=by omega
  go_wp2_with fail
  obtain ⟨r6,r8,rc⟩:=rst2 (by omega) HKM.out HKF.out (.int .u8 0) (.int .u64 0) (.int .u64 0) (.int .u64 0) (.int .u64 0) (.int .u64 0) (.int .u64 0) (.string ⟨#[]⟩) (.string ⟨#[]⟩) (.slice none 0 0) (.int .i64 3) (.int .i64 (U:Int))
  unfold rW2 at r6 r8 rc
  clear lhk2 lhkm lhkf zhk20 zhk21 zhk22 zhk23 zhk24 zhk25 zhk26 zhk27 zhk28 zhk29 zhkm0 zhkm1 zhkm2 zhkm3 zhkm4 zhkm5 zhkm6 zhkm7 zhkm8 zhkm9 zhkf0 zhkf1 fm0 fm1 fm2 fm3 fm4 fm5 fm6 fm7 fm8 fm9 ff0 ff1
  first | generalize World.setCell (World.setCell (World.setCell (World.setCell (World.setCell (World.setCell (World.setCell (World.setCell (World.setCell (World.setCell (World.setCell (World.setCell w4 _ _) _ _) _ _) _ _) _ _) _ _) _ _) _ _) _ _) _ _) _ _) _ _=W9 at * | trace_state
  have hbR:=HBB4.out.trans (rc.below (B:=s) (fun q hq=>by omega) (by have:=HKM.out.lt;omega))
  have x0:=r6.cell 0
  have x1:=r6.cell 1
  have x2:=r6.cell 2
  have x3:=r6.cell 3
  have x4:=r6.cell 4
  have x5:=r6.cell 5
  have x6:=r6.cell 6
  have x7:=r6.cell 7
  have x8:=r6.cell 8
  have x9:=r6.cell 9
  have y0:=r8.cell 0
  have y1:=r8.cell 1
  simp only [gA,gB,gC] at x0 x1 x2 x3 x4 x5 x6 x7 x8 x9 y0 y1
  refine bodyPost_ret (v:=.tuple #[.agg #[.int .u8 0,.int .u64 0,.int .u64 0,.int .u64 0,.int .u64 0,.int .u64 0,.int .u64 0,.string ⟨#[]⟩,.string ⟨#[]⟩,.slice none 0 0],.agg #[.int .i64 3,.int .i64 (U:Int)]]) (by simp [results,Tryz.results6,go_sem,x0,x1,x2,x3,x4,x5,x6,x7,x8,x9,y0,y1]) rfl ?_
  exact HQ2.out he _ hbR
theorem tdec_any (k:Nat) (v:Int) (bs:List UInt8) (n:Nat) (A:Option Addr) (c:Nat) (w:World) (hk:k<=255) (hv1 : -9223372036854775808<=v) (hv2:v<=9223372036854775807) (hn:bs.length=n) (hs:Sl w A c (bs.map bv)):Calls Tryz.prog 6 #[.int .u8 (k:Int),.int .i64 v,.slice A n c] w (TdcR w (strD k v bs)):=by
 rcases str_ways k v bs with ⟨E,P,hE,hr,-,h1⟩ | ⟨M,O,hr,hg,hL,hc,-,h1⟩
 ·rw [h1];exact tdec_bad k v bs n A c w hk hv1 hv2 hn hs hE hr
 ·rw [h1];exact tdec_good k v bs n A c w hk hv1 hv2 hn hs hr hg hc
def TxB2 (s p2 el co:Nat) (Ao:Option Addr) (E P:Int) (a0:Act) (w0:World) (f:Nat->Bool) (a:Act) (w:World):Prop:=∃ x0 x1 x2:Value,a=(((a0.put (some 19) x0).put (some 20) x1).put (some 6) x2)/\(f 0=true->x0=.slice Ao el co)/\(f 1=true->x1=.agg #[.int .i64 E,.int .i64 P])/\(f 2=true->x2=.slice Ao el co)/\Blk w (s) 32 (if f 3=true then #[.int .i64 E,.int .i64 P] else #[.int .i64 0,.int .i64 0])/\Chg (fun q=>q=s) w0 w
theorem tfix_of (k:Nat) (v:Int) (bs:List UInt8) (n:Nat) (A:Option Addr) (c:Nat) (w:World) (hk:k<=255) (hv1 : -9223372036854775808<=v) (hv2:v<=9223372036854775807) (hn:bs.length=n) (hs:Sl w A c (bs.map bv)) {M:MV} {own:List UInt8} {E:Int} {P:Nat} (hd:∀ W,Below w.heap.size w W->Calls Tryz.prog 13 #[.int .u8 (k:Int),.int .i64 v,.slice A n c] W (TrdR W (M,own,E,P))) :
  Calls Tryz.prog 11 #[.int .u8 (k:Int),.int .i64 v,.slice A n c] w fun e w'=>∃ Ao co,e=.returned (.tuple #[.slice Ao own.length co,.agg #[.int .i64 E,.int .i64 (P:Int)]])/\Ow w' w.heap.size 5 own.length Ao co (own.map bv)/\Below w.heap.size w w':=by
 obtain ⟨Q,hQ⟩:∃ Q:Ending->World->Prop,Q=fun e w'=>∃ Ao co,e=.returned (.tuple #[.slice Ao own.length co,.agg #[.int .i64 E,.int .i64 (P:Int)]])/\Ow w' w.heap.size 5 own.length Ao co (own.map bv)/\Below w.heap.size w w':=⟨_,rfl⟩
 rw [<-hQ]
 obtain ⟨s,hws⟩:∃ s,w.heap.size=s:=⟨_,rfl⟩
 have hz:=hws
 obtain ⟨el,hel⟩:∃ el,own.length=el:=⟨_,rfl⟩
 have hq:∀ Ao co w',Ow w' (s+1) 5 el Ao co (own.map bv)->Below s w w'->Q (.returned (.tuple #[.slice Ao el co,.agg #[.int .i64 E,.int .i64 (P:Int)]])) w':=fun Ao co w' h1 h=>by rw [hQ];exact ⟨Ao,co,by rw [hel],by rw [hel,hz];exact h1.mono (by omega),by rw [hz];exact h⟩
 have hd2:∀ W,Below s w W->s+1<=W.heap.size->Calls Tryz.prog 13 #[.int .u8 (k:Int),.int .i64 v,.slice A n c] W fun e w'=>∃ (A':Option Addr) (c':Nat) (Ao:Option Addr) (co:Nat),e=.returned (.tuple #[.agg #[.int .u8 (M.k:Int),.int .u64 (M.n0:Int),.int .u64 (M.n1:Int),.int .u64 (M.n2:Int),.int .u64 (M.n3:Int),.int .u64 (M.n4:Int),.int .u64 (M.n5:Int),.string M.s0,.string M.s1,.slice A' M.l.length c'],.slice Ao el co,.agg #[.int .i64 E,.int .i64 (P:Int)]])/\Ow w' (s+1) 5 el Ao co (own.map bv)/\Below W.heap.size W w':=fun W hW hb2=>(hd W (by rw [hz];exact hW)).mono (by rintro e w' ⟨A',c',Ao,co,he,h1,h2,hb⟩;simp only [hel] at he h2;exact ⟨A',c',Ao,co,he,h2.mono hb2,hb⟩)
 generalize ((P:Nat):Int)=P at *
 have HQ:=hid hq
 have HD:=hid hd2
 clear hq hd hd2 hQ hs hn hel
 go_enter Tryz.func11,Tryz.ntmps11
 go_wp2_with fail
 have hkf:Blk (w.alloc (.cells #[.int .i64 0,.int .i64 0] 32)) (s) 32 #[.int .i64 0,.int .i64 0]:=by
  have h:=(Blk.new w 32 #[.int .i64 0,.int .i64 0])
  rw [hz] at h;exact h
 have hb0:Below s w (w.alloc (.cells #[.int .i64 0,.int .i64 0] 32)):=by
  have h:=(bw_a (Below.refl w.heap.size w) (.cells #[.int .i64 0,.int .i64 0] 32))
  rw [hz] at h;exact h
 have hsz:((w.alloc (.cells #[.int .i64 0,.int .i64 0] 32))).heap.size=s+1:=by simp [hz]
 generalize hW1:(w.alloc (.cells #[.int .i64 0,.int .i64 0] 32))=W1 at *
 have HKF:=hid hkf
 have HBB1:=hid hb0
 have HSZ1:=hid hsz
 clear hb0 hsz hz hW1 hkf
 refine (HD.out _ HBB1.out (by have:=HSZ1.out;omega)).mono ?_
 rintro e w2 ⟨A1,c1,Ao,co,rfl,hso,hb⟩
 have hkf:=HKF.out.below hb HKF.out.lt
 have hb0:Below s w w2:=HBB1.out.trans (hb.mono (by have:=HBB1.out.size;omega))
 have HKF:=hid hkf
 have HSO:=hid hso
 have HBB2:=hid hb0
 clear hb0 hb hkf hso
 have lf:=HKF.out.lt
 obtain ⟨p2,hz⟩:∃ p,w2.heap.size=p:=⟨_,rfl⟩
 rw [hz] at lf
 go_wp2_with fail
 have hk2:Blk ((w2.alloc (.cells #[.int .u8 (M.k:Int),.int .u64 (M.n0:Int),.int .u64 (M.n1:Int),.int .u64 (M.n2:Int),.int .u64 (M.n3:Int),.int .u64 (M.n4:Int),.int .u64 (M.n5:Int),.string M.s0,.string M.s1,.slice A1 M.l.length c1] 29)).alloc (.cells #[.int .i64 E,.int .i64 P] 32)) (p2) 29 #[.int .u8 (M.k:Int),.int .u64 (M.n0:Int),.int .u64 (M.n1:Int),.int .u64 (M.n2:Int),.int .u64 (M.n3:Int),.int .u64 (M.n4:Int),.int .u64 (M.n5:Int),.string M.s0,.string M.s1,.slice A1 M.l.length c1]:=by
  have h:=((Blk.new w2 29 #[.int .u8 (M.k:Int),.int .u64 (M.n0:Int),.int .u64 (M.n1:Int),.int .u64 (M.n2:Int),.int .u64 (M.n3:Int),.int .u64 (M.n4:Int),.int .u64 (M.n5:Int),.string M.s0,.string M.s1,.slice A1 M.l.length c1]).alloc (.cells #[.int .i64 E,.int .i64 P] 32))
  rw [hz] at h;exact h
 have hk3:Blk ((w2.alloc (.cells #[.int .u8 (M.k:Int),.int .u64 (M.n0:Int),.int .u64 (M.n1:Int),.int .u64 (M.n2:Int),.int .u64 (M.n3:Int),.int .u64 (M.n4:Int),.int .u64 (M.n5:Int),.string M.s0,.string M.s1,.slice A1 M.l.length c1] 29)).alloc (.cells #[.int .i64 E,.int .i64 P] 32)) (p2+1) 32 #[.int .i64 E,.int .i64 P]:=by
  have h:=(Blk.new (w2.alloc (.cells #[.int .u8 (M.k:Int),.int .u64 (M.n0:Int),.int .u64 (M.n1:Int),.int .u64 (M.n2:Int),.int .u64 (M.n3:Int),.int .u64 (M.n4:Int),.int .u64 (M.n5:Int),.string M.s0,.string M.s1,.slice A1 M.l.length c1] 29)) 32 #[.int .i64 E,.int .i64 P])
  rw [World.size_alloc,hz] at h;exact h
 have hkf:=((HKF.out.alloc (.cells #[.int .u8 (M.k:Int),.int .u64 (M.n0:Int),.int .u64 (M.n1:Int),.int .u64 (M.n2:Int),.int .u64 (M.n3:Int),.int .u64 (M.n4:Int),.int .u64 (M.n5:Int),.string M.s0,.string M.s1,.slice A1 M.l.length c1] 29)).alloc (.cells #[.int .i64 E,.int .i64 P] 32))
 have hso:=HSO.out.below (bw_a (bw_a (Below.refl w2.heap.size w2) (.cells #[.int .u8 (M.k:Int),.int .u64 (M.n0:Int),.int .u64 (M.n1:Int),.int .u64 (M.n2:Int),.int .u64 (M.n3:Int),.int .u64 (M.n4:Int),.int .u64 (M.n5:Int),.string M.s0,.string M.s1,.slice A1 M.l.length c1] 29)) (.cells #[.int .i64 E,.int .i64 P] 32))
 have hb0:Below s w ((w2.alloc (.cells #[.int .u8 (M.k:Int),.int .u64 (M.n0:Int),.int .u64 (M.n1:Int),.int .u64 (M.n2:Int),.int .u64 (M.n3:Int),.int .u64 (M.n4:Int),.int .u64 (M.n5:Int),.string M.s0,.string M.s1,.slice A1 M.l.length c1] 29)).alloc (.cells #[.int .i64 E,.int .i64 P] 32)):=HBB2.out.trans ((bw_a (bw_a (Below.refl w2.heap.size w2) (.cells #[.int .u8 (M.k:Int),.int .u64 (M.n0:Int),.int .u64 (M.n1:Int),.int .u64 (M.n2:Int),.int .u64 (M.n3:Int),.int .u64 (M.n4:Int),.int .u64 (M.n5:Int),.string M.s0,.string M.s1,.slice A1 M.l.length c1] 29)) (.cells #[.int .i64 E,.int .i64 P] 32)).mono (by have:=HBB2.out.size;omega))
 have hsz:(((w2.alloc (.cells #[.int .u8 (M.k:Int),.int .u64 (M.n0:Int),.int .u64 (M.n1:Int),.int .u64 (M.n2:Int),.int .u64 (M.n3:Int),.int .u64 (M.n4:Int),.int .u64 (M.n5:Int),.string M.s0,.string M.s1,.slice A1 M.l.length c1] 29)).alloc (.cells #[.int .i64 E,.int .i64 P] 32))).heap.size=p2+1+1:=by simp [hz]
 generalize hW3:((w2.alloc (.cells #[.int .u8 (M.k:Int),.int .u64 (M.n0:Int),.int .u64 (M.n1:Int),.int .u64 (M.n2:Int),.int .u64 (M.n3:Int),.int .u64 (M.n4:Int),.int .u64 (M.n5:Int),.string M.s0,.string M.s1,.slice A1 M.l.length c1] 29)).alloc (.cells #[.int .i64 E,.int .i64 P] 32))=W3 at *
 have HKF:=hid hkf
 have HK2:=hid hk2
 have HK3:=hid hk3
 have HSO:=hid hso
 have HBB3:=hid hb0
 have HSZ3:=hid hsz
 clear hb0 hsz hz hW3 hkf hk2 hk3 hso
 refine wp_region_invB (by kernel_rfl) (by kernel_rfl) (TxB2 s p2 el co Ao E P) ?_ ?_ ?_
 ·exact ⟨undef,undef,.slice none 0 0,(by first | (simp only [Act.put,gD,gE,gF];done) | rfl),by simp,by simp,by simp,(by simp;exact (HKF.out)),⟨rfl,rfl,rfl,Nat.le_refl _,fun _ _ _=>rfl⟩⟩
 ·intro f a' wx i o ho hf hdep hI
  have hi:i < 4:=(Array.getElem?_eq_some_iff.1 ho).1
  have hcase:i=0\/i=1\/i=2\/i=3:=by omega
  clear hi
  rcases hcase with rfl | rfl | rfl | rfl
  all_goals
   simp only [gA,gB,gC,Option.some.injEq] at ho
   subst ho
  ·skip
   obtain ⟨x0,x1,x2,rfl,h0,h1,h2,k3,hC⟩:=hI
   have H0':=hid h0;have H1':=hid h1;have H2':=hid h2;have K3':=hid k3;have HC':=hid hC;clear h0 h1 h2 k3 hC
   try simp only [Act.put,gD,gE,gF]
   go_wp2_with fail
   have h0:=H0'.out;have h1:=H1'.out;have h2:=H2'.out;have k3:=K3'.out;have hC:=HC'.out
   exact ⟨_,x1,x2,(by first | (simp only [Act.put,gD,gE,gF];done) | rfl),(fun _=>rfl),(fun h=>h1 (by simpa using h)),(fun h=>h2 (by simpa using h)),(by simpa using k3),hC⟩
  ·skip
   obtain ⟨x0,x1,x2,rfl,h0,h1,h2,k3,hC⟩:=hI
   have hb:=hC.blk HK3.out (by omega)
   have t0:=hb.cell 0
   have t1:=hb.cell 1
   simp only [gA,gB,gC] at t0 t1
   clear hb
   have H0':=hid h0;have H1':=hid h1;have H2':=hid h2;have K3':=hid k3;have HC':=hid hC;clear h0 h1 h2 k3 hC
   try simp only [Act.put,gD,gE,gF]
   go_wp2_with fail
   have h0:=H0'.out;have h1:=H1'.out;have h2:=H2'.out;have k3:=K3'.out;have hC:=HC'.out
   exact ⟨x0,_,x2,(by first | (simp only [Act.put,gD,gE,gF];done) | rfl),(fun h=>h0 (by simpa using h)),(fun _=>rfl),(fun h=>h2 (by simpa using h)),(by simpa using k3),hC⟩
  ·skip
   obtain ⟨x0,x1,x2,rfl,h0,h1,h2,k3,hC⟩:=hI
   simp [Region.binds] at hdep
   obtain rfl:=h0 (by first | exact hdep | exact hdep.1 | exact hdep.2 | exact hdep.2.1 | exact hdep.2.2 | exact hdep.2.2.1 | exact hdep.2.2.2 | simp_all)
   have H0':=hid h0;have H1':=hid h1;have H2':=hid h2;have K3':=hid k3;have HC':=hid hC;clear h0 h1 h2 k3 hC
   try simp only [Act.put,gD,gE,gF]
   go_wp2_with fail
   have h0:=H0'.out;have h1:=H1'.out;have h2:=H2'.out;have k3:=K3'.out;have hC:=HC'.out
   exact ⟨_,x1,_,(by first | (simp only [Act.put,gD,gE,gF];done) | rfl),(fun _=>rfl),(fun h=>h1 (by simpa using h)),(fun _=>rfl),(by simpa using k3),hC⟩
  ·skip
   obtain ⟨x0,x1,x2,rfl,h0,h1,h2,k3,hC⟩:=hI
   simp [Region.binds] at hdep
   obtain rfl:=h1 (by first | exact hdep | exact hdep.1 | exact hdep.2 | exact hdep.2.1 | exact hdep.2.2 | exact hdep.2.2.1 | exact hdep.2.2.2 | simp_all)
   have hko:Blk wx (s) 32 #[.int .i64 0,.int .i64 0]:=by have h:=k3;rw [hf] at h;simpa using h
   have y0:=hko.cell 0;have z0:=hko.frozen 0
   have y1:=hko.cell 1;have z1:=hko.frozen 1
   simp only [gA,gB,gC] at y0 y1
   have HKO:=hid hko;clear hko
   have H0':=hid h0;have H1':=hid h1;have H2':=hid h2;have K3':=hid k3;have HC':=hid hC;clear h0 h1 h2 k3 hC
   try simp only [Act.put,gD,gE,gF]
   go_wp2_with fail
   have h0:=H0'.out;have h1:=H1'.out;have h2:=H2'.out;have k3:=K3'.out;have hC:=HC'.out
   obtain ⟨hkn,hcn⟩:=fstore HKO.out _ _
   exact ⟨x0,_,x2,(by first | (simp only [Act.put,gD,gE,gF];done) | rfl),(fun h=>h0 (by simpa using h)),(fun _=>rfl),(fun h=>h2 (by simpa using h)),(by simpa using hkn),(hC.trans (hcn.mono (fun q _ hq=>by subst hq;simp)))⟩
 ·intro f a' wx hall hI
  obtain ⟨x0,x1,x2,rfl,h0,h1,h2,k3,hC⟩:=hI
  obtain rfl:=h0 (hall 0 (by simp))
  obtain rfl:=h1 (hall 1 (by simp))
  obtain rfl:=h2 (hall 2 (by simp))
  have kf3:=k3;rw [hall 3 (by simp),if_pos rfl] at kf3
  clear h0 h1 h2 k3 hall f
  try simp only [Act.put,gD,gE,gF]
  go_wp2_with fail
  have y0:=kf3.cell 0
  have y1:=kf3.cell 1
  simp only [gA,gB,gC] at y0 y1
  have hbR:=HBB3.out.trans (hC.below (B:=s) (fun x hx=>by omega) (by have:=HKF.out.lt;omega))
  refine bodyPost_ret (v:=.tuple #[.slice Ao el co,.agg #[.int .i64 E,.int .i64 P]]) (by simp [results,Tryz.results11,go_sem,y0,y1]) rfl ?_
  exact HQ.out _ _ _ (HSO.out.chg hC (fun q hq=>by omega)) hbR
theorem tfix_any (k:Nat) (v:Int) (bs:List UInt8) (n:Nat) (A:Option Addr) (c:Nat) (w:World) (hk:k<=255) (hv1 : -9223372036854775808<=v) (hv2:v<=9223372036854775807) (hn:bs.length=n) (hs:Sl w A c (bs.map bv)):Calls Tryz.prog 11 #[.int .u8 (k:Int),.int .i64 v,.slice A n c] w fun e w'=>∃ Ao co,e=.returned (.tuple #[.slice Ao (strR k v bs).2.1.length co,.agg #[.int .i64 (strR k v bs).2.2.1,.int .i64 ((strR k v bs).2.2.2:Int)]])/\Ow w' w.heap.size 5 (strR k v bs).2.1.length Ao co ((strR k v bs).2.1.map bv)/\Below w.heap.size w w' :=
 tfix_of k v bs n A c w hk hv1 hv2 hn hs (M:=(strR k v bs).1) fun W hW=>tread_any k v bs n A c W hk hv1 hv2 hn (hs.below hW)
end Go.Proofs.YtpmfdlghckfgiaaGreat
