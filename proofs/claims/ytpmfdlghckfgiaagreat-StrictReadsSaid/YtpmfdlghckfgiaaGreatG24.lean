/- lenient.Set. · lenient.read: what it comes to; its early · The document's Set: numbers. · The document's Set: what has no place. · What is read back, and that what is read -/
import Derived.Test.YtpmfdlghckfgiaaGreatLenSetN
import Derived.Test.YtpmfdlghckfgiaaGreatG20
import Derived.Test.YtpmfdlghckfgiaaGreatG12
import Derived.Test.YtpmfdlghckfgiaaGreatG0
import Derived.BigQuiet
import Derived.Deep.QuietTactic
set_option linter.unusedVariables false
set_option maxRecDepth 100000
set_option maxHeartbeats 16000000
namespace Go.Proofs.YtpmfdlghckfgiaaGreat
open Go.RowKit
def fvS (f:FV):ByteArray:=⟨f.s.xs.toArray⟩
theorem lset_any (m:MV) (num t i:Int) (f:FV) (w:World) (hfn:f.n<=18446744073709551615) (hlm:m.l.length<=1000000) (hsm:Sl w m.A m.c (m.l.map sv)) (hx:f.s.xs.length<=9223372036854775807) (hsf:Sl w f.s.A f.s.c (f.s.xs.map bv)) :
  Calls Tryz.prog 49 #[mvV m,.agg #[.int .i64 num,.int .i64 t,.int .i64 i],.agg (fvC f).toArray] w fun e w'=>∃ A' c',e=.returned (.tuple #[mvV { setM m t i f.n (fvS f) with A:=A',c:=c' },.int .i64 (setE m t i (fvS f))])/\w'.ownsRow w.heap.size 9 1 (.slice A' (setM m t i f.n (fvS f)).l.length c') (setM m t i f.n (fvS f)).l.length ((setM m t i f.n (fvS f)).l.map sv)/\Below w.heap.size w w':=by
 cases hp:plB t i with
 | false =>
  have hE:setE m t i (fvS f)=7:=by unfold setE;rw [if_pos hp]
  have hM:setM m t i f.n (fvS f)=ZM:=by unfold setM;rw [if_pos (by rw [hE];decide)]
  rw [hE,hM]
  refine (lset_none m num t i f.num f.w f.n f.s.A f.s.xs.length f.s.c f.at_ w hp).mono ?_
  rintro e w' ⟨he,hb⟩
  exact ⟨none,0,he,World.ownsRow_nil _ _ _ _,hb⟩
 | true =>
  have hpl:(1<=t/\t<=6/\0<=i/\i < 6)\/7<=t:=by
   have h:=hp
   unfold plB at h
   simp only [Bool.or_eq_true,decide_eq_true_eq] at h
   omega
  rcases hpl with ⟨h1,h6,hi⟩ | h7
  ·have hE:setE m t i (fvS f)=0:=by unfold setE;rw [if_neg (by rw [hp];simp),if_pos h6]
   have hM:setM m t i f.n (fvS f)=m.setN i (numV t f.n):=by unfold setM;rw [if_neg (by rw [hE];decide),if_pos h6]
   rw [hE,hM]
   exact lset_num0 m num t i f.num f.w f.n f.s.A f.s.xs.length f.s.c f.at_ w ⟨h1,h6⟩ hi hfn hlm hsm
  ·exact lset_text m num t i f.num f.w f.n f.s.A f.s.xs.length f.s.c f.at_ f.s.xs w hp h7 hlm hsm rfl hx hsf
end Go.Proofs.YtpmfdlghckfgiaaGreat
set_option linter.unusedVariables false
set_option maxRecDepth 100000
set_option maxHeartbeats 16000000
namespace Go.Proofs.YtpmfdlghckfgiaaGreat
open Go.RowKit Go.Shelf
attribute [local go_sem] Oper.semAt_some
def readR (k:Nat) (v:Int) (bs:List UInt8):MV × List (RF × Nat) × Int × Nat :=
 if (ofL (k:Int) v).length=0 then (ZM,[],7,0) else if 8192 < bs.length then (ZM,[],2,0) else if (flds bs bs.length 0).2.1 ≠ 0 then (ZM,[],((flds bs bs.length 0).2.1:Nat),(flds bs bs.length 0).2.2) else
 if (decF (ofL (k:Int) v) { ZM with k:=k } (flds bs bs.length 0).1).2.2.1 ≠ 0 then (ZM,[],(decF (ofL (k:Int) v) { ZM with k:=k } (flds bs bs.length 0).1).2.2) else decF (ofL (k:Int) v) { ZM with k:=k } (flds bs bs.length 0).1
def rW3 (w:World) (s:Nat) (x0 x1 x2 x3 x4 x5 x6 x7 x8 x9 y z0 z1:Value):World:=(((((((((((((w.setCell ⟨s,0,none⟩ x0).setCell ⟨s,1,none⟩ x1).setCell ⟨s,2,none⟩ x2).setCell ⟨s,3,none⟩ x3).setCell ⟨s,4,none⟩ x4).setCell ⟨s,5,none⟩ x5).setCell ⟨s,6,none⟩ x6).setCell ⟨s,7,none⟩ x7).setCell ⟨s,8,none⟩ x8).setCell ⟨s,9,none⟩ x9).setCell ⟨s+1,0,none⟩ y).setCell ⟨s+1+1,0,none⟩ z0).setCell ⟨s+1+1,1,none⟩ z1)
theorem rst3 {w:World} {s:Nat} {o0 o1 o2 o3 o4 o5 o6 o7 o8 o9 p q0 q1:Value} (h6:Blk w s 29 #[o0,o1,o2,o3,o4,o5,o6,o7,o8,o9]) (h7:Blk w (s+1) 53 #[p]) (h8:Blk w (s+1+1) 32 #[q0,q1]) (x0 x1 x2 x3 x4 x5 x6 x7 x8 x9 y z0 z1:Value) :
  Blk (rW3 w s x0 x1 x2 x3 x4 x5 x6 x7 x8 x9 y z0 z1) s 29 #[x0,x1,x2,x3,x4,x5,x6,x7,x8,x9]/\Blk (rW3 w s x0 x1 x2 x3 x4 x5 x6 x7 x8 x9 y z0 z1) (s+1) 53 #[y]/\Blk (rW3 w s x0 x1 x2 x3 x4 x5 x6 x7 x8 x9 y z0 z1) (s+1+1) 32 #[z0,z1]/\Chg (fun q=>q=s\/q=s+1\/q=s+1+1) w (rW3 w s x0 x1 x2 x3 x4 x5 x6 x7 x8 x9 y z0 z1):=by
 obtain ⟨h1,h2⟩:=mstore h6 x0 x1 x2 x3 x4 x5 x6 x7 x8 x9
 have k7:=h2.blk h7 (by omega)
 have k8:=h2.blk h8 (by omega)
 have hc:=h2.mono (T:=fun q=>q=s\/q=s+1\/q=s+1+1) (fun q _ h=>.inl h)
 unfold rW3
 generalize ((((((((((w.setCell ⟨s,0,none⟩ x0).setCell ⟨s,1,none⟩ x1).setCell ⟨s,2,none⟩ x2).setCell ⟨s,3,none⟩ x3).setCell ⟨s,4,none⟩ x4).setCell ⟨s,5,none⟩ x5).setCell ⟨s,6,none⟩ x6).setCell ⟨s,7,none⟩ x7).setCell ⟨s,8,none⟩ x8).setCell ⟨s,9,none⟩ x9)=W at *
 refine ⟨((h1.far (p:=⟨s+1,0,none⟩) (by show ¬ s=s+1;omega) y).far (p:=⟨s+1+1,0,none⟩) (by show ¬ s=s+1+1;omega) z0).far (p:=⟨s+1+1,1,none⟩) (by show ¬ s=s+1+1;omega) z1,?_,?_,?_⟩
 ·have:=((k7.set_ 0 y).far (p:=⟨s+1+1,0,none⟩) (by show ¬ s+1=s+1+1;omega) z0).far (p:=⟨s+1+1,1,none⟩) (by show ¬ s+1=s+1+1;omega) z1
  simpa using this
 ·have:=((k8.far (p:=⟨s+1,0,none⟩) (by show ¬ s+1+1=s+1;omega) y).set_ 0 z0).set_ 1 z1
  simpa using this
 ·exact ((hc.set_ (.inl (.inr (.inl rfl))) 0 y).set_ (.inl (.inr (.inr rfl))) 0 z0).set_ (.inl (.inr (.inr rfl))) 1 z1
def ReadR (w:World) (R:MV × List (RF × Nat) × Int × Nat) (e:Ending) (w':World):Prop :=
 ∃ (A':Option Addr) (c':Nat) (pre:List FV) (Ao:Option Addr) (co:Nat),e=.returned (.tuple #[mvV { R.1 with A:=A',c:=c' },.slice Ao pre.length co,.agg #[.int .i64 R.2.2.1,.int .i64 (R.2.2.2:Nat)]])/\w'.ownsRow w.heap.size 9 1 (.slice A' R.1.l.length c') R.1.l.length (R.1.l.map sv) /\
  w'.ownsRow w.heap.size 61 5 (.slice Ao pre.length co) pre.length (pre.flatMap fvC)/\fvAll pre R.2.1/\(∀ f ∈ pre,Sl w' f.s.A f.s.c (f.s.xs.map bv))/\Below w.heap.size w w'
theorem ReadR.bad {w w':World} {E:Int} {at_:Nat} (hb:Below w.heap.size w w'):ReadR w (ZM,[],E,at_) (.returned (.tuple #[.agg #[.int .u8 0,.int .u64 0,.int .u64 0,.int .u64 0,.int .u64 0,.int .u64 0,.int .u64 0,.string ⟨#[]⟩,.string ⟨#[]⟩,.slice none 0 0],.slice none 0 0,.agg #[.int .i64 E,.int .i64 (at_:Nat)]])) w' :=
 ⟨none,0,[],none,0,rfl,World.ownsRow_nil _ _ _ _,World.ownsRow_nil _ _ _ _,trivial,by simp,hb⟩
theorem lread_none (m:Nat) (hm:12<=m) (k:Nat) (v:Int) (bs:List UInt8) (n:Nat) (A:Option Addr) (c:Nat) (w:World) (hk:k<=255) (hv1 : -9223372036854775808<=v) (hv2:v<=9223372036854775807) (hL:(ofL (k:Int) v).length=0) :
  CallsIn Fence.wide m Tryz.prog 30 #[.int .u8 (k:Int),.int .i64 v,.slice A n c] w (ReadR w (readR k v bs)):=by
 have hR:readR k v bs=(ZM,[],7,0):=by unfold readR;rw [if_pos hL]
 rw [hR]
 have hbad:=fun w'=>ReadR.bad (w:=w) (w':=w') (E:=7) (at_:=0)
 generalize ReadR w (ZM,[],7,0)=Q at *
 have h1:1<=m:=by omega
 obtain ⟨s,hsz⟩:∃ s,w.heap.size=s:=⟨_,rfl⟩
 rw [hsz] at hbad
 have hof:=fun W=>sof2_in (m - 1) (by omega) (k:Int) v W hv1 hv2
 rw [hL] at hof
 have HOF:=hid hof
 have HBAD:=hid hbad
 clear hof hbad hR
 obtain ⟨W0,hW0⟩:∃ W0,(((w.alloc (.cells #[.int .u8 0,.int .u64 0,.int .u64 0,.int .u64 0,.int .u64 0,.int .u64 0,.int .u64 0,.string ⟨#[]⟩,.string ⟨#[]⟩,.slice none 0 0] 29)).alloc (.cells #[.slice none 0 0] 53)).alloc (.cells #[.int .i64 0,.int .i64 0] 32))=W0:=⟨_,rfl⟩
 have hk6:Blk W0 s 29 #[.int .u8 0,.int .u64 0,.int .u64 0,.int .u64 0,.int .u64 0,.int .u64 0,.int .u64 0,.string ⟨#[]⟩,.string ⟨#[]⟩,.slice none 0 0]:=by rw [<-hW0,<-hsz];exact ((Blk.new w _ _).alloc _).alloc _
 have hk7:Blk W0 (s+1) 53 #[.slice none 0 0]:=by
  have h:=Blk.new (w.alloc (.cells #[.int .u8 0,.int .u64 0,.int .u64 0,.int .u64 0,.int .u64 0,.int .u64 0,.int .u64 0,.string ⟨#[]⟩,.string ⟨#[]⟩,.slice none 0 0] 29)) 53 #[.slice none 0 0]
  rw [World.size_alloc,hsz] at h;rw [<-hW0];exact h.alloc _
 have hk8:Blk W0 (s+1+1) 32 #[.int .i64 0,.int .i64 0]:=by
  have h:=Blk.new ((w.alloc (.cells #[.int .u8 0,.int .u64 0,.int .u64 0,.int .u64 0,.int .u64 0,.int .u64 0,.int .u64 0,.string ⟨#[]⟩,.string ⟨#[]⟩,.slice none 0 0] 29)).alloc (.cells #[.slice none 0 0] 53)) 32 #[.int .i64 0,.int .i64 0]
  rw [World.size_alloc,World.size_alloc,hsz] at h;rw [<-hW0];exact h
 have hb0:Below s w W0:=by rw [<-hW0,<-hsz];exact bw_a (bw_a (bw_a (Below.refl _ w) _) _) _
 have HW0:=hid hW0
 clear hW0
 refine callsIn_of_wp_marks Tryz.func30 rfl trivial ?_ rfl
 simp only [Tryz.ntmps30,List.size_toArray,List.length_cons,List.length_nil,Nat.reduceAdd,Nat.reduceSub,Array.replicate_succ,Array.replicate_zero,List.push_toArray,List.append_toArray,List.nil_append,List.cons_append]
 gi_wp2
 rw [HW0.out]
 refine wpIn_wide.2 (wp_scope_straight ((wpIn_wide (n:=m)).1 ?_))
 gi_wp2_with (first | (refine ⟨trivial,?_⟩;gi_at_call 46;refine (HOF.out _).mono ?_;rintro e w1 ⟨vv,rfl,ho,hb1⟩;obtain ⟨AL,cL,rfl⟩:=row_slice' ho;have hl6:=hk6.lt;have hl7:=hk7.lt;have hl8:=hk8.lt;have hk6:=hk6.below hb1 hl6;have hk7:=hk7.below hb1 hl7;have hk8:=hk8.below hb1 hl8;have c0:=hk6.cell 0;have c1:=hk6.cell 1;have c2:=hk6.cell 2;have c3:=hk6.cell 3;have c4:=hk6.cell 4;have c5:=hk6.cell 5;have c6:=hk6.cell 6;have c7:=hk6.cell 7;have c8:=hk6.cell 8;have c9:=hk6.cell 9;have d0:=hk7.cell 0;have e0:=hk8.cell 0;have e1:=hk8.cell 1;simp only [gA,gB,gC] at c0 c1 c2 c3 c4 c5 c6 c7 c8 c9 d0 e0 e1;have f0:=hk6.frozen 0;have f1:=hk6.frozen 1;have f2:=hk6.frozen 2;have f3:=hk6.frozen 3;have f4:=hk6.frozen 4;have f5:=hk6.frozen 5;have f6:=hk6.frozen 6;have f7:=hk6.frozen 7;have f8:=hk6.frozen 8;have f9:=hk6.frozen 9;have g0:=hk7.frozen 0;have i0:=hk8.frozen 0;have i1:=hk8.frozen 1;have HK6:=hid hk6;have HK7:=hid hk7;have HK8:=hid hk8;have HB1:=hid hb1;have HO1:=hid ho;have l6:=HK6.out.lt;have l7:=HK7.out.lt;have l8:=HK8.out.lt;clear ho hk6 hk7 hk8 hb1 hl6 hl7 hl8) | fail)
 obtain ⟨r6,r7,r8,rc⟩:=rst3 HK6.out HK7.out HK8.out (.int .u8 0) (.int .u64 0) (.int .u64 0) (.int .u64 0) (.int .u64 0) (.int .u64 0) (.int .u64 0) (.string ⟨#[]⟩) (.string ⟨#[]⟩) (.slice none 0 0) (.slice none 0 0) (.int .i64 7) (.int .i64 0)
 have hbR:=(hb0.trans (HB1.out.mono (by have:=hb0.size;omega))).trans (rc.below (B:=s) (fun q hq=>by omega) (by omega))
 unfold rW3 at r6 r7 r8 hbR
 clear c0 c1 c2 c3 c4 c5 c6 c7 c8 c9 d0 e0 e1 f0 f1 f2 f3 f4 f5 f6 f7 f8 f9 g0 i0 i1
 first | generalize World.setCell (World.setCell (World.setCell (World.setCell (World.setCell (World.setCell (World.setCell (World.setCell (World.setCell (World.setCell (World.setCell (World.setCell (World.setCell w1 _ _) _ _) _ _) _ _) _ _) _ _) _ _) _ _) _ _) _ _) _ _) _ _) _ _=W9 at * | trace_state
 have x0:=r6.cell 0
 have x1:=r6.cell 1
 have x2:=r6.cell 2
 have x3:=r6.cell 3
 have x4:=r6.cell 4
 have x5:=r6.cell 5
 have x6:=r6.cell 6
 have x7:=r6.cell 7
 have x8:=r6.cell 8
 have x9:=r6.cell 9
 have y0:=r7.cell 0
 have z0:=r8.cell 0
 have z1:=r8.cell 1
 simp only [gA,gB,gC] at x0 x1 x2 x3 x4 x5 x6 x7 x8 x9 y0 z0 z1
 refine ⟨.tuple #[.agg #[.int .u8 0,.int .u64 0,.int .u64 0,.int .u64 0,.int .u64 0,.int .u64 0,.int .u64 0,.string ⟨#[]⟩,.string ⟨#[]⟩,.slice none 0 0],.slice none 0 0,.agg #[.int .i64 7,.int .i64 0]],by simp [results,Tryz.results30,go_sem,x0,x1,x2,x3,x4,x5,x6,x7,x8,x9,y0,z0,z1],?_⟩
 exact HBAD.out _ hbR
theorem lread_long (m:Nat) (hm:12<=m) (k:Nat) (v:Int) (bs:List UInt8) (n:Nat) (A:Option Addr) (c:Nat) (w:World) (hk:k<=255) (hv1 : -9223372036854775808<=v) (hv2:v<=9223372036854775807) (hL:(ofL (k:Int) v).length ≠ 0) (hn:bs.length=n) (hl:8192 < n) :
  CallsIn Fence.wide m Tryz.prog 30 #[.int .u8 (k:Int),.int .i64 v,.slice A n c] w (ReadR w (readR k v bs)):=by
 have hR:readR k v bs=(ZM,[],2,0):=by unfold readR;rw [if_neg hL,if_pos (by omega)]
 rw [hR]
 have hbad:=fun w'=>ReadR.bad (w:=w) (w':=w') (E:=2) (at_:=0)
 generalize ReadR w (ZM,[],2,0)=Q at *
 have h1:1<=m:=by omega
 obtain ⟨s,hsz⟩:∃ s,w.heap.size=s:=⟨_,rfl⟩
 rw [hsz] at hbad
 have hof:=fun W=>sof2_in (m - 1) (by omega) (k:Int) v W hv1 hv2
 rw [decide_eq_true (show 0 < (ofL (k:Int) v).length by omega)] at hof
 have hgt:(8192:Int) < (n:Int):=by omega
 clear hn
 have HOF:=hid hof
 have HBAD:=hid hbad
 clear hof hbad hR
 obtain ⟨W0,hW0⟩:∃ W0,(((w.alloc (.cells #[.int .u8 0,.int .u64 0,.int .u64 0,.int .u64 0,.int .u64 0,.int .u64 0,.int .u64 0,.string ⟨#[]⟩,.string ⟨#[]⟩,.slice none 0 0] 29)).alloc (.cells #[.slice none 0 0] 53)).alloc (.cells #[.int .i64 0,.int .i64 0] 32))=W0:=⟨_,rfl⟩
 have hk6:Blk W0 s 29 #[.int .u8 0,.int .u64 0,.int .u64 0,.int .u64 0,.int .u64 0,.int .u64 0,.int .u64 0,.string ⟨#[]⟩,.string ⟨#[]⟩,.slice none 0 0]:=by rw [<-hW0,<-hsz];exact ((Blk.new w _ _).alloc _).alloc _
 have hk7:Blk W0 (s+1) 53 #[.slice none 0 0]:=by
  have h:=Blk.new (w.alloc (.cells #[.int .u8 0,.int .u64 0,.int .u64 0,.int .u64 0,.int .u64 0,.int .u64 0,.int .u64 0,.string ⟨#[]⟩,.string ⟨#[]⟩,.slice none 0 0] 29)) 53 #[.slice none 0 0]
  rw [World.size_alloc,hsz] at h;rw [<-hW0];exact h.alloc _
 have hk8:Blk W0 (s+1+1) 32 #[.int .i64 0,.int .i64 0]:=by
  have h:=Blk.new ((w.alloc (.cells #[.int .u8 0,.int .u64 0,.int .u64 0,.int .u64 0,.int .u64 0,.int .u64 0,.int .u64 0,.string ⟨#[]⟩,.string ⟨#[]⟩,.slice none 0 0] 29)).alloc (.cells #[.slice none 0 0] 53)) 32 #[.int .i64 0,.int .i64 0]
  rw [World.size_alloc,World.size_alloc,hsz] at h;rw [<-hW0];exact h
 have hb0:Below s w W0:=by rw [<-hW0,<-hsz];exact bw_a (bw_a (bw_a (Below.refl _ w) _) _) _
 have HW0:=hid hW0
 clear hW0
 refine callsIn_of_wp_marks Tryz.func30 rfl trivial ?_ rfl
 simp only [Tryz.ntmps30,List.size_toArray,List.length_cons,List.length_nil,Nat.reduceAdd,Nat.reduceSub,Array.replicate_succ,Array.replicate_zero,List.push_toArray,List.append_toArray,List.nil_append,List.cons_append]
 gi_wp2
 rw [HW0.out]
 refine wpIn_wide.2 (wp_scope_straight ((wpIn_wide (n:=m)).1 ?_))
 gi_wp2_with (first | (refine ⟨trivial,?_⟩;gi_at_call 46;refine (HOF.out _).mono ?_;rintro e w1 ⟨vv,rfl,ho,hb1⟩;obtain ⟨AL,cL,rfl⟩:=row_slice' ho;have hl6:=hk6.lt;have hl7:=hk7.lt;have hl8:=hk8.lt;have hk6:=hk6.below hb1 hl6;have hk7:=hk7.below hb1 hl7;have hk8:=hk8.below hb1 hl8;have c0:=hk6.cell 0;have c1:=hk6.cell 1;have c2:=hk6.cell 2;have c3:=hk6.cell 3;have c4:=hk6.cell 4;have c5:=hk6.cell 5;have c6:=hk6.cell 6;have c7:=hk6.cell 7;have c8:=hk6.cell 8;have c9:=hk6.cell 9;have d0:=hk7.cell 0;have e0:=hk8.cell 0;have e1:=hk8.cell 1;simp only [gA,gB,gC] at c0 c1 c2 c3 c4 c5 c6 c7 c8 c9 d0 e0 e1;have f0:=hk6.frozen 0;have f1:=hk6.frozen 1;have f2:=hk6.frozen 2;have f3:=hk6.frozen 3;have f4:=hk6.frozen 4;have f5:=hk6.frozen 5;have f6:=hk6.frozen 6;have f7:=hk6.frozen 7;have f8:=hk6.frozen 8;have f9:=hk6.frozen 9;have g0:=hk7.frozen 0;have i0:=hk8.frozen 0;have i1:=hk8.frozen 1;have HK6:=hid hk6;have HK7:=hid hk7;have HK8:=hid hk8;have HB1:=hid hb1;have HO1:=hid ho;have l6:=HK6.out.lt;have l7:=HK7.out.lt;have l8:=HK8.out.lt;clear ho hk6 hk7 hk8 hb1 hl6 hl7 hl8) | fail)
 obtain ⟨r6,r7,r8,rc⟩:=rst3 HK6.out HK7.out HK8.out (.int .u8 0) (.int .u64 0) (.int .u64 0) (.int .u64 0) (.int .u64 0) (.int .u64 0) (.int .u64 0) (.string ⟨#[]⟩) (.string ⟨#[]⟩) (.slice none 0 0) (.slice none 0 0) (.int .i64 2) (.int .i64 0)
 have hbR:=(hb0.trans (HB1.out.mono (by have:=hb0.size;omega))).trans (rc.below (B:=s) (fun q hq=>by omega) (by omega))
 unfold rW3 at r6 r7 r8 hbR
 clear c0 c1 c2 c3 c4 c5 c6 c7 c8 c9 d0 e0 e1 f0 f1 f2 f3 f4 f5 f6 f7 f8 f9 g0 i0 i1
 first | generalize World.setCell (World.setCell (World.setCell (World.setCell (World.setCell (World.setCell (World.setCell (World.setCell (World.setCell (World.setCell (World.setCell (World.setCell (World.setCell w1 _ _) _ _) _ _) _ _) _ _) _ _) _ _) _ _) _ _) _ _) _ _) _ _) _ _=W9 at * | trace_state
 have x0:=r6.cell 0
 have x1:=r6.cell 1
 have x2:=r6.cell 2
 have x3:=r6.cell 3
 have x4:=r6.cell 4
 have x5:=r6.cell 5
 have x6:=r6.cell 6
 have x7:=r6.cell 7
 have x8:=r6.cell 8
 have x9:=r6.cell 9
 have y0:=r7.cell 0
 have z0:=r8.cell 0
 have z1:=r8.cell 1
 simp only [gA,gB,gC] at x0 x1 x2 x3 x4 x5 x6 x7 x8 x9 y0 z0 z1
 refine ⟨.tuple #[.agg #[.int .u8 0,.int .u64 0,.int .u64 0,.int .u64 0,.int .u64 0,.int .u64 0,.int .u64 0,.string ⟨#[]⟩,.string ⟨#[]⟩,.slice none 0 0],.slice none 0 0,.agg #[.int .i64 2,.int .i64 0]],by simp [results,Tryz.results30,go_sem,x0,x1,x2,x3,x4,x5,x6,x7,x8,x9,y0,z0,z1],?_⟩
 exact HBAD.out _ hbR
theorem ostore {w:World} {p:Nat} {t:TypeId} {o:Value} (h:Blk w p t #[o]) (x:Value):Blk (w.setCell ⟨p,0,none⟩ x) p t #[x]/\Chg (fun q=>q=p) w (w.setCell ⟨p,0,none⟩ x) :=
 ⟨by simpa using h.set_ 0 x,(Chg.refl (fun q=>q=p) w).set_ (.inl rfl) 0 x⟩
def RdR8 (s qf E P:Nat) (a0:Act) (w0:World) (f:Nat->Bool) (a:Act) (w:World):Prop:=∃ x0 x1:Value,a=((a0.put (some 41) x0).put (some 42) x1)/\(f 0=true->x0=.agg #[.int .u8 0,.int .u64 0,.int .u64 0,.int .u64 0,.int .u64 0,.int .u64 0,.int .u64 0,.string ⟨#[]⟩,.string ⟨#[]⟩,.slice none 0 0])/\(f 1=true->x1=.agg #[.int .i64 (E:Int),.int .i64 (P:Int)])/\Blk w (s) 29 (if f 2=true then #[.int .u8 0,.int .u64 0,.int .u64 0,.int .u64 0,.int .u64 0,.int .u64 0,.int .u64 0,.string ⟨#[]⟩,.string ⟨#[]⟩,.slice none 0 0] else #[.int .u8 0,.int .u64 0,.int .u64 0,.int .u64 0,.int .u64 0,.int .u64 0,.int .u64 0,.string ⟨#[]⟩,.string ⟨#[]⟩,.slice none 0 0])/\Blk w (s+1) 53 (if f 3=true then #[.slice none 0 0] else #[.slice none 0 0])/\Blk w (s+1+1) 32 (if f 4=true then #[.int .i64 (E:Int),.int .i64 (P:Int)] else #[.int .i64 0,.int .i64 0])/\Chg (fun q=>q=s\/q=s+1\/q=s+1+1) w0 w
theorem lread_bad (m:Nat) (hm:12<=m) (k:Nat) (v:Int) (bs:List UInt8) (n:Nat) (A:Option Addr) (c:Nat) (w:World) (hk:k<=255) (hv1 : -9223372036854775808<=v) (hv2:v<=9223372036854775807) (hL:(ofL (k:Int) v).length ≠ 0) (hn:bs.length=n) (hl:n<=8192) (hs:Sl w A c (bs.map bv)) (hF:(flds bs n 0).2.1 ≠ 0) :
  CallsIn Fence.wide m Tryz.prog 30 #[.int .u8 (k:Int),.int .i64 v,.slice A n c] w (ReadR w (readR k v bs)):=by
 have hR:readR k v bs=(ZM,[],(((flds bs n 0).2.1:Nat):Int),(flds bs n 0).2.2):=by unfold readR;rw [if_neg hL,if_neg (by omega),hn,if_pos hF]
 rw [hR]
 have hbad:=fun w'=>ReadR.bad (w:=w) (w':=w') (E:=(((flds bs n 0).2.1:Nat):Int)) (at_:=(flds bs n 0).2.2)
 generalize ReadR w (ZM,[],(((flds bs n 0).2.1:Nat):Int),(flds bs n 0).2.2)=Q at *
 have h1:1<=m:=by omega
 obtain ⟨s,hsz⟩:∃ s,w.heap.size=s:=⟨_,rfl⟩
 rw [hsz] at hbad
 have hof:=fun W=>sof2_in (m - 1) (by omega) (k:Int) v W hv1 hv2
 rw [decide_eq_true (show 0 < (ofL (k:Int) v).length by omega)] at hof
 have hgt:¬ ((8192:Int) < (n:Int)):=by omega
 obtain ⟨E,hE⟩:∃ E,(flds bs n 0).2.1=E:=⟨_,rfl⟩
 obtain ⟨P,hP⟩:∃ P,(flds bs n 0).2.2=P:=⟨_,rfl⟩
 rw [hE,hP] at hbad
 have hfl:=fun W (hW:Below s w W)=>(fields_in (m - 1) (by omega) bs n A c W hn (by omega) (hs.below (by rw [hsz];exact hW))).mono (R':=fun e W'=>e=.returned (.tuple #[.slice none 0 0,.agg #[.int .i64 (E:Int),.int .i64 (P:Int)]])/\Below W.heap.size W W') (by rintro e W' ⟨(h | h),hb⟩;exact absurd h.1 hF;rw [hE,hP] at h;exact ⟨h.2,hb⟩)
 have HFL:=hid hfl
 have hEne:(((E:Nat):Int) != 0)=true:=by simp;rw [<-hE];exact hF
 clear hfl hn hE hP hF
 have HOF:=hid hof
 have HBAD:=hid hbad
 clear hof hbad hR
 obtain ⟨W0,hW0⟩:∃ W0,(((w.alloc (.cells #[.int .u8 0,.int .u64 0,.int .u64 0,.int .u64 0,.int .u64 0,.int .u64 0,.int .u64 0,.string ⟨#[]⟩,.string ⟨#[]⟩,.slice none 0 0] 29)).alloc (.cells #[.slice none 0 0] 53)).alloc (.cells #[.int .i64 0,.int .i64 0] 32))=W0:=⟨_,rfl⟩
 have hk6:Blk W0 s 29 #[.int .u8 0,.int .u64 0,.int .u64 0,.int .u64 0,.int .u64 0,.int .u64 0,.int .u64 0,.string ⟨#[]⟩,.string ⟨#[]⟩,.slice none 0 0]:=by rw [<-hW0,<-hsz];exact ((Blk.new w _ _).alloc _).alloc _
 have hk7:Blk W0 (s+1) 53 #[.slice none 0 0]:=by
  have h:=Blk.new (w.alloc (.cells #[.int .u8 0,.int .u64 0,.int .u64 0,.int .u64 0,.int .u64 0,.int .u64 0,.int .u64 0,.string ⟨#[]⟩,.string ⟨#[]⟩,.slice none 0 0] 29)) 53 #[.slice none 0 0]
  rw [World.size_alloc,hsz] at h;rw [<-hW0];exact h.alloc _
 have hk8:Blk W0 (s+1+1) 32 #[.int .i64 0,.int .i64 0]:=by
  have h:=Blk.new ((w.alloc (.cells #[.int .u8 0,.int .u64 0,.int .u64 0,.int .u64 0,.int .u64 0,.int .u64 0,.int .u64 0,.string ⟨#[]⟩,.string ⟨#[]⟩,.slice none 0 0] 29)).alloc (.cells #[.slice none 0 0] 53)) 32 #[.int .i64 0,.int .i64 0]
  rw [World.size_alloc,World.size_alloc,hsz] at h;rw [<-hW0];exact h
 have hb0:Below s w W0:=by rw [<-hW0,<-hsz];exact bw_a (bw_a (bw_a (Below.refl _ w) _) _) _
 have HW0:=hid hW0
 clear hW0
 refine callsIn_of_wp_marks Tryz.func30 rfl trivial ?_ rfl
 simp only [Tryz.ntmps30,List.size_toArray,List.length_cons,List.length_nil,Nat.reduceAdd,Nat.reduceSub,Array.replicate_succ,Array.replicate_zero,List.push_toArray,List.append_toArray,List.nil_append,List.cons_append]
 gi_wp2
 rw [HW0.out]
 refine wpIn_wide.2 (wp_scope_straight ((wpIn_wide (n:=m)).1 ?_))
 gi_wp2_with (first | (refine ⟨trivial,?_⟩;gi_at_call 46;refine (HOF.out _).mono ?_;rintro e w1 ⟨vv,rfl,ho,hb1⟩;obtain ⟨AL,cL,rfl⟩:=row_slice' ho;have hl6:=hk6.lt;have hl7:=hk7.lt;have hl8:=hk8.lt;have hk6:=hk6.below hb1 hl6;have hk7:=hk7.below hb1 hl7;have hk8:=hk8.below hb1 hl8;have c0:=hk6.cell 0;have c1:=hk6.cell 1;have c2:=hk6.cell 2;have c3:=hk6.cell 3;have c4:=hk6.cell 4;have c5:=hk6.cell 5;have c6:=hk6.cell 6;have c7:=hk6.cell 7;have c8:=hk6.cell 8;have c9:=hk6.cell 9;have d0:=hk7.cell 0;have e0:=hk8.cell 0;have e1:=hk8.cell 1;simp only [gA,gB,gC] at c0 c1 c2 c3 c4 c5 c6 c7 c8 c9 d0 e0 e1;have f0:=hk6.frozen 0;have f1:=hk6.frozen 1;have f2:=hk6.frozen 2;have f3:=hk6.frozen 3;have f4:=hk6.frozen 4;have f5:=hk6.frozen 5;have f6:=hk6.frozen 6;have f7:=hk6.frozen 7;have f8:=hk6.frozen 8;have f9:=hk6.frozen 9;have g0:=hk7.frozen 0;have i0:=hk8.frozen 0;have i1:=hk8.frozen 1;have HK6:=hid hk6;have HK7:=hid hk7;have HK8:=hid hk8;have HB1:=hid hb1;have HO1:=hid ho;have l6:=HK6.out.lt;have l7:=HK7.out.lt;have l8:=HK8.out.lt;clear ho hk6 hk7 hk8 hb1 hl6 hl7 hl8) | (refine ⟨trivial,?_⟩;gi_at_call 47;refine (HFL.out _ (hb0.trans (HB1.out.mono (by have:=hb0.size;omega)))).mono ?_;rintro e w2 ⟨rfl,hb2⟩;have hk6:=HK6.out.below hb2 l6;have hk7:=HK7.out.below hb2 l7;have hk8:=HK8.out.below hb2 l8;clear HK6 HK7 HK8;have hb2':=HB1.out.trans (hb2.mono HB1.out.size);clear c0 c1 c2 c3 c4 c5 c6 c7 c8 c9 d0 e0 e1 f0 f1 f2 f3 f4 f5 f6 f7 f8 f9 g0 i0 i1;have HK6:=hid hk6;have HK7:=hid hk7;have HK8:=hid hk8;have HB2:=hid hb2';have l6:=hk6.lt;have l7:=hk7.lt;have l8:=hk8.lt;clear hk6 hk7 hk8 hb2 hb2'))
 refine wpIn_wide.2 ?_
 obtain ⟨qf,hqf⟩:∃ qf,w2.heap.size=qf:=⟨_,rfl⟩
 have hkn:=Blk.new w2 32 #[.int .i64 (E:Int),.int .i64 (P:Int)]
 rw [hqf] at hkn l6 l7 l8
 have hk6:=HK6.out.alloc (.cells #[.int .i64 (E:Int),.int .i64 (P:Int)] 32)
 have hk7:=HK7.out.alloc (.cells #[.int .i64 (E:Int),.int .i64 (P:Int)] 32)
 have hk8:=HK8.out.alloc (.cells #[.int .i64 (E:Int),.int .i64 (P:Int)] 32)
 have hbA:Below s w (w2.alloc (.cells #[.int .i64 (E:Int),.int .i64 (P:Int)] 32)):=(hb0.trans (HB2.out.mono (by have:=hb0.size;omega))).alloc (by omega) _
 rw [hqf]
 clear HK6 HK7 HK8 hqf HB2
 have HK6:=hid hk6
 have HK7:=hid hk7
 have HK8:=hid hk8
 have HBA:=hid hbA
 have HN0:=hid hkn
 clear hk6 hk7 hk8 hbA hkn
 generalize (w2.alloc (.cells #[.int .i64 (E:Int),.int .i64 (P:Int)] 32))=w3 at *
 refine wp_region_invB (by kernel_rfl) (by kernel_rfl) (RdR8 s qf E P) ?_ ?_ ?_
 ·exact ⟨undef,undef,(by first | rfl | (simp only [Act.put,gD,gE,gF])),by simp,by simp,(by simp;exact (HK6.out)),(by simp;exact (HK7.out)),(by simp;exact (HK8.out)),⟨rfl,rfl,rfl,Nat.le_refl _,fun _ _ _=>rfl⟩⟩
 ·intro f a' wx i o ho hf hdep hI
  have hi:i < 5:=(Array.getElem?_eq_some_iff.1 ho).1
  have hcase:i=0\/i=1\/i=2\/i=3\/i=4:=by omega
  clear hi
  rcases hcase with rfl | rfl | rfl | rfl | rfl
  all_goals
   simp only [gA,gB,gC,Option.some.injEq] at ho
   subst ho
  ·skip
   obtain ⟨x0,x1,rfl,h0,h1,k2,k3,k4,hC⟩:=hI
   have H0':=hid h0;have H1':=hid h1;have K2':=hid k2;have K3':=hid k3;have K4':=hid k4;have HC':=hid hC;clear h0 h1 k2 k3 k4 hC
   try simp only [Act.put,gD,gE,gF]
   go_wp2_with fail
   have h0:=H0'.out;have h1:=H1'.out;have k2:=K2'.out;have k3:=K3'.out;have k4:=K4'.out;have hC:=HC'.out
   exact ⟨_,x1,(by first | rfl | (simp only [Act.put,gD,gE,gF])),(fun _=>rfl),(fun h=>h1 (by simpa using h)),(by simpa using k2),(by simpa using k3),(by simpa using k4),hC⟩
  ·skip
   obtain ⟨x0,x1,rfl,h0,h1,k2,k3,k4,hC⟩:=hI
   have t0:=(hC.blk HN0.out (by omega)).cell 0
   have t1:=(hC.blk HN0.out (by omega)).cell 1
   simp only [gA,gB,gC] at t0 t1
   have H0':=hid h0;have H1':=hid h1;have K2':=hid k2;have K3':=hid k3;have K4':=hid k4;have HC':=hid hC;clear h0 h1 k2 k3 k4 hC
   try simp only [Act.put,gD,gE,gF]
   go_wp2_with fail
   have h0:=H0'.out;have h1:=H1'.out;have k2:=K2'.out;have k3:=K3'.out;have k4:=K4'.out;have hC:=HC'.out
   exact ⟨x0,_,(by first | rfl | (simp only [Act.put,gD,gE,gF])),(fun h=>h0 (by simpa using h)),(fun _=>rfl),(by simpa using k2),(by simpa using k3),(by simpa using k4),hC⟩
  ·skip
   obtain ⟨x0,x1,rfl,h0,h1,k2,k3,k4,hC⟩:=hI
   simp [Region.binds] at hdep
   obtain rfl:=h0 (by first | exact hdep | exact hdep.1 | exact hdep.2 | exact hdep.2.1 | exact hdep.2.2 | exact hdep.2.2.1 | exact hdep.2.2.2 | simp_all)
   have hko:Blk wx (s) 29 #[.int .u8 0,.int .u64 0,.int .u64 0,.int .u64 0,.int .u64 0,.int .u64 0,.int .u64 0,.string ⟨#[]⟩,.string ⟨#[]⟩,.slice none 0 0]:=by have h:=k2;rw [hf] at h;simpa using h
   have y0:=hko.cell 0;have z0:=hko.frozen 0
   have y1:=hko.cell 1;have z1:=hko.frozen 1
   have y2:=hko.cell 2;have z2:=hko.frozen 2
   have y3:=hko.cell 3;have z3:=hko.frozen 3
   have y4:=hko.cell 4;have z4:=hko.frozen 4
   have y5:=hko.cell 5;have z5:=hko.frozen 5
   have y6:=hko.cell 6;have z6:=hko.frozen 6
   have y7:=hko.cell 7;have z7:=hko.frozen 7
   have y8:=hko.cell 8;have z8:=hko.frozen 8
   have y9:=hko.cell 9;have z9:=hko.frozen 9
   simp only [gA,gB,gC] at y0 y1 y2 y3 y4 y5 y6 y7 y8 y9
   have HKO:=hid hko;clear hko
   have H0':=hid h0;have H1':=hid h1;have K2':=hid k2;have K3':=hid k3;have K4':=hid k4;have HC':=hid hC;clear h0 h1 k2 k3 k4 hC
   try simp only [Act.put,gD,gE,gF]
   go_wp2_with fail
   have h0:=H0'.out;have h1:=H1'.out;have k2:=K2'.out;have k3:=K3'.out;have k4:=K4'.out;have hC:=HC'.out
   obtain ⟨hkn,hcn⟩:=mstore HKO.out _ _ _ _ _ _ _ _ _ _
   exact ⟨_,x1,(by first | rfl | (simp only [Act.put,gD,gE,gF])),(fun _=>rfl),(fun h=>h1 (by simpa using h)),(by simpa using hkn),(hcn.blk (by simpa using k3) (by omega)),(hcn.blk (by simpa using k4) (by omega)),(hC.trans (hcn.mono (fun q _ hq=>by subst hq;simp)))⟩
  ·skip
   obtain ⟨x0,x1,rfl,h0,h1,k2,k3,k4,hC⟩:=hI
   have hko:Blk wx (s+1) 53 #[.slice none 0 0]:=by have h:=k3;rw [hf] at h;simpa using h
   have y0:=hko.cell 0;have z0:=hko.frozen 0
   simp only [gA,gB] at y0
   have HKO:=hid hko;clear hko
   have H0':=hid h0;have H1':=hid h1;have K2':=hid k2;have K3':=hid k3;have K4':=hid k4;have HC':=hid hC;clear h0 h1 k2 k3 k4 hC
   try simp only [Act.put,gD,gE,gF]
   go_wp2_with fail
   have h0:=H0'.out;have h1:=H1'.out;have k2:=K2'.out;have k3:=K3'.out;have k4:=K4'.out;have hC:=HC'.out
   obtain ⟨hkn,hcn⟩:=ostore HKO.out _
   exact ⟨x0,x1,(by first | rfl | (simp only [Act.put,gD,gE,gF])),(fun h=>h0 (by simpa using h)),(fun h=>h1 (by simpa using h)),(hcn.blk (by simpa using k2) (by omega)),(by simpa using hkn),(hcn.blk (by simpa using k4) (by omega)),(hC.trans (hcn.mono (fun q _ hq=>by subst hq;simp)))⟩
  ·skip
   obtain ⟨x0,x1,rfl,h0,h1,k2,k3,k4,hC⟩:=hI
   simp [Region.binds] at hdep
   obtain rfl:=h1 (by first | exact hdep | exact hdep.1 | exact hdep.2 | exact hdep.2.1 | exact hdep.2.2 | exact hdep.2.2.1 | exact hdep.2.2.2 | simp_all)
   have hko:Blk wx (s+1+1) 32 #[.int .i64 0,.int .i64 0]:=by have h:=k4;rw [hf] at h;simpa using h
   have y0:=hko.cell 0;have z0:=hko.frozen 0
   have y1:=hko.cell 1;have z1:=hko.frozen 1
   simp only [gA,gB,gC] at y0 y1
   have HKO:=hid hko;clear hko
   have H0':=hid h0;have H1':=hid h1;have K2':=hid k2;have K3':=hid k3;have K4':=hid k4;have HC':=hid hC;clear h0 h1 k2 k3 k4 hC
   try simp only [Act.put,gD,gE,gF]
   go_wp2_with fail
   have h0:=H0'.out;have h1:=H1'.out;have k2:=K2'.out;have k3:=K3'.out;have k4:=K4'.out;have hC:=HC'.out
   obtain ⟨hkn,hcn⟩:=fstore HKO.out _ _
   exact ⟨x0,_,(by first | rfl | (simp only [Act.put,gD,gE,gF])),(fun h=>h0 (by simpa using h)),(fun _=>rfl),(hcn.blk (by simpa using k2) (by omega)),(hcn.blk (by simpa using k3) (by omega)),(by simpa using hkn),(hC.trans (hcn.mono (fun q _ hq=>by subst hq;simp)))⟩
 ·intro f a' wx hall hI
  obtain ⟨x0,x1,rfl,h0,h1,k2,k3,k4,hC⟩:=hI
  obtain rfl:=h0 (hall 0 (by simp))
  obtain rfl:=h1 (hall 1 (by simp))
  have kf2:=k2;rw [hall 2 (by simp),if_pos rfl] at kf2
  have kf3:=k3;rw [hall 3 (by simp),if_pos rfl] at kf3
  have kf4:=k4;rw [hall 4 (by simp),if_pos rfl] at kf4
  clear h0 h1 k2 k3 k4 hall f
  try simp only [Act.put,gD,gE,gF]
  have hb9:=HBA.out.trans (hC.below (B:=s) (fun q hq=>by omega) (by have:=HK6.out.lt;omega))
  have x0:=kf2.cell 0;have x1:=kf2.cell 1;have x2:=kf2.cell 2;have x3:=kf2.cell 3;have x4:=kf2.cell 4;have x5:=kf2.cell 5;have x6:=kf2.cell 6;have x7:=kf2.cell 7;have x8:=kf2.cell 8;have x9:=kf2.cell 9
  have y0:=kf3.cell 0
  have z0:=kf4.cell 0
  have z1:=kf4.cell 1
  simp only [gA,gB,gC] at x0 x1 x2 x3 x4 x5 x6 x7 x8 x9 y0 z0 z1
  have HB9:=hid hb9
  clear kf2 kf3 kf4 hC hb9
  gi_wp2
  refine ⟨.tuple #[.agg #[.int .u8 0,.int .u64 0,.int .u64 0,.int .u64 0,.int .u64 0,.int .u64 0,.int .u64 0,.string ⟨#[]⟩,.string ⟨#[]⟩,.slice none 0 0],.slice none 0 0,.agg #[.int .i64 (E:Int),.int .i64 (P:Int)]],by simp [results,Tryz.results30,go_sem,x0,x1,x2,x3,x4,x5,x6,x7,x8,x9,y0,z0,z1],?_⟩
  exact HBAD.out _ HB9.out
end Go.Proofs.YtpmfdlghckfgiaaGreat
set_option linter.unusedVariables false
set_option maxRecDepth 100000
set_option maxHeartbeats 16000000
namespace Go.Proofs.YtpmfdlghckfgiaaGreat
open Go.RowKit
theorem rset_num1 (m:MV) (num t i:Int) (fnum fw:Int) (fn:Nat) (fA:Option Addr) (xl fc:Nat) (fat:Int) (w:World) (ht:t=1\/t=3\/t=4\/t=2\/t=5\/t=6) (hi:i=0\/i=1\/i=2\/i=3\/i=4\/i=5) (hfn:fn<=18446744073709551615) :
  Calls Tryz.prog 24 #[mvV m,.agg #[.int .i64 num,.int .i64 t,.int .i64 i],.agg #[.int .i64 fnum,.int .u8 fw,.int .u64 (fn:Int),.slice fA xl fc,.int .i64 fat]] w fun e w'=>e=.returned (.tuple #[mvV (m.setN i (numV t fn)),.int .i64 0])/\Below w.heap.size w w':=by
 obtain ⟨U,hU⟩:∃ U,mvV (m.setN i (numV t fn))=U:=⟨_,rfl⟩
 rw [hU]
 unfold mvV mvA
 obtain ⟨len,hlen⟩:∃ n,m.l.length=n:=⟨_,rfl⟩
 simp only [hlen]
 obtain ⟨s,hws⟩:∃ s,w.heap.size=s:=⟨_,rfl⟩
 rw [hws]
 have HU:=hid hU
 have HLEN:=hid hlen
 clear hU hlen
 obtain ⟨x,hx⟩:∃ x,numV t fn=x:=⟨_,rfl⟩
 rw [hx] at HU
 rcases (show t=1\/(t=3/\fn % 2=0)\/(t=3/\fn % 2=1)\/(t=4/\fn=0)\/(t=4/\0 < fn)\/(t=2\/t=5\/t=6) by omega) with rfl | ⟨rfl,hm⟩ | ⟨rfl,hm⟩ | ⟨rfl,hm⟩ | ⟨rfl,hm⟩ | ht
 ·have hxe:(fn:Int) % 4294967296=(x:Int):=by rw [<-hx];unfold numV;rw [if_pos rfl];omega
  clear hx ht
  rcases hi with rfl | rfl | rfl | rfl | rfl | rfl
  all_goals
   go_enter Tryz.func24,Tryz.ntmps24
   go_wp2_with fail
   try rw [hxe]
   generalize hW:World.alloc (World.alloc (World.alloc (World.alloc w _) _) _) _=W
   obtain ⟨hk3,hB⟩:=alloc4 hW hws
   clear hW
   have r0:=hk3.cell 0
   have r1:=hk3.cell 1
   have r2:=hk3.cell 2
   have r3:=hk3.cell 3
   have r4:=hk3.cell 4
   have r5:=hk3.cell 5
   have r6:=hk3.cell 6
   have r7:=hk3.cell 7
   have r8:=hk3.cell 8
   have r9:=hk3.cell 9
   simp only [gA,gB,gC] at r0 r1 r2 r3 r4 r5 r6 r7 r8 r9
   refine bodyPost_ret (v:=.tuple #[U,.int .i64 0]) ?_ rfl ⟨rfl,hB⟩
   rw [<-HU.out]
   simp [results,Tryz.results24,go_sem,r0,r1,r2,r3,r4,r5,r6,r7,r8,r9,mvV,mvA,MV.setN,HLEN.out]
 ·have hxe:(fn:Int) / 2=(x:Int):=by rw [<-hx];unfold numV;rw [if_neg (by decide),if_neg (by decide),if_pos rfl];unfold zagU;rw [if_pos hm];omega
  clear hx ht
  rcases hi with rfl | rfl | rfl | rfl | rfl | rfl
  all_goals
   go_enter Tryz.func24,Tryz.ntmps24
   go_wp2_with fail
   try rw [hxe]
   generalize hW:World.alloc (World.alloc (World.alloc (World.alloc w _) _) _) _=W
   obtain ⟨hk3,hB⟩:=alloc4 hW hws
   clear hW
   have r0:=hk3.cell 0
   have r1:=hk3.cell 1
   have r2:=hk3.cell 2
   have r3:=hk3.cell 3
   have r4:=hk3.cell 4
   have r5:=hk3.cell 5
   have r6:=hk3.cell 6
   have r7:=hk3.cell 7
   have r8:=hk3.cell 8
   have r9:=hk3.cell 9
   simp only [gA,gB,gC] at r0 r1 r2 r3 r4 r5 r6 r7 r8 r9
   refine bodyPost_ret (v:=.tuple #[U,.int .i64 0]) ?_ rfl ⟨rfl,hB⟩
   rw [<-HU.out]
   simp [results,Tryz.results24,go_sem,r0,r1,r2,r3,r4,r5,r6,r7,r8,r9,mvV,mvA,MV.setN,HLEN.out]
 ·have hxe:IntKind.u64.wrap (IntKind.u64.wrap (-((fn:Int) / 2)) - 1)=(x:Int):=by rw [<-hx];unfold numV;rw [if_neg (by decide),if_neg (by decide),if_pos rfl];unfold zagU;rw [if_neg (by omega)];show ((-((fn:Int) / 2)) % 18446744073709551616 - 1) % 18446744073709551616=_;omega
  clear hx ht
  rcases hi with rfl | rfl | rfl | rfl | rfl | rfl
  all_goals
   go_enter Tryz.func24,Tryz.ntmps24
   go_wp2_with fail
   try rw [hxe]
   generalize hW:World.alloc (World.alloc (World.alloc (World.alloc w _) _) _) _=W
   obtain ⟨hk3,hB⟩:=alloc4 hW hws
   clear hW
   have r0:=hk3.cell 0
   have r1:=hk3.cell 1
   have r2:=hk3.cell 2
   have r3:=hk3.cell 3
   have r4:=hk3.cell 4
   have r5:=hk3.cell 5
   have r6:=hk3.cell 6
   have r7:=hk3.cell 7
   have r8:=hk3.cell 8
   have r9:=hk3.cell 9
   simp only [gA,gB,gC] at r0 r1 r2 r3 r4 r5 r6 r7 r8 r9
   refine bodyPost_ret (v:=.tuple #[U,.int .i64 0]) ?_ rfl ⟨rfl,hB⟩
   rw [<-HU.out]
   simp [results,Tryz.results24,go_sem,r0,r1,r2,r3,r4,r5,r6,r7,r8,r9,mvV,mvA,MV.setN,HLEN.out]
 ·have hxe:x=0:=by rw [<-hx];unfold numV;rw [if_neg (by decide),if_pos rfl,if_pos hm]
  subst hxe
  have hm2:¬ (0:Int) < (fn:Int):=by omega
  clear hx ht hm
  rcases hi with rfl | rfl | rfl | rfl | rfl | rfl
  all_goals
   go_enter Tryz.func24,Tryz.ntmps24
   go_wp2_with fail
   generalize hW:World.alloc (World.alloc (World.alloc (World.alloc w _) _) _) _=W
   obtain ⟨hk3,hB⟩:=alloc4 hW hws
   clear hW
   have r0:=hk3.cell 0
   have r1:=hk3.cell 1
   have r2:=hk3.cell 2
   have r3:=hk3.cell 3
   have r4:=hk3.cell 4
   have r5:=hk3.cell 5
   have r6:=hk3.cell 6
   have r7:=hk3.cell 7
   have r8:=hk3.cell 8
   have r9:=hk3.cell 9
   simp only [gA,gB,gC] at r0 r1 r2 r3 r4 r5 r6 r7 r8 r9
   refine bodyPost_ret (v:=.tuple #[U,.int .i64 0]) ?_ rfl ⟨rfl,hB⟩
   rw [<-HU.out]
   simp [results,Tryz.results24,go_sem,r0,r1,r2,r3,r4,r5,r6,r7,r8,r9,mvV,mvA,MV.setN,HLEN.out]
 ·have hxe:x=1:=by rw [<-hx];unfold numV;rw [if_neg (by decide),if_pos rfl,if_neg (by omega)]
  subst hxe
  have hm2:(0:Int) < (fn:Int):=by omega
  clear hx ht hm
  rcases hi with rfl | rfl | rfl | rfl | rfl | rfl
  all_goals
   go_enter Tryz.func24,Tryz.ntmps24
   go_wp2_with fail
   generalize hW:World.alloc (World.alloc (World.alloc (World.alloc w _) _) _) _=W
   obtain ⟨hk3,hB⟩:=alloc4 hW hws
   clear hW
   have r0:=hk3.cell 0
   have r1:=hk3.cell 1
   have r2:=hk3.cell 2
   have r3:=hk3.cell 3
   have r4:=hk3.cell 4
   have r5:=hk3.cell 5
   have r6:=hk3.cell 6
   have r7:=hk3.cell 7
   have r8:=hk3.cell 8
   have r9:=hk3.cell 9
   simp only [gA,gB,gC] at r0 r1 r2 r3 r4 r5 r6 r7 r8 r9
   refine bodyPost_ret (v:=.tuple #[U,.int .i64 0]) ?_ rfl ⟨rfl,hB⟩
   rw [<-HU.out]
   simp [results,Tryz.results24,go_sem,r0,r1,r2,r3,r4,r5,r6,r7,r8,r9,mvV,mvA,MV.setN,HLEN.out]
 ·have hxe:fn=x:=by rw [<-hx];unfold numV;rw [if_neg (by omega),if_neg (by omega),if_neg (by omega)]
  subst hxe
  clear hx
  have p1:(t == 1)=false:=by simp;omega
  have p3:(t == 3)=false:=by simp;omega
  have p4:(t == 4)=false:=by simp;omega
  have q1:(1:Int)<=t:=by omega
  have q6:t<=6:=by omega
  have q7:¬ (7:Int)<=t:=by omega
  clear ht
  rcases hi with rfl | rfl | rfl | rfl | rfl | rfl
  all_goals
   go_enter Tryz.func24,Tryz.ntmps24
   go_wp2_with fail
   generalize hW:World.alloc (World.alloc (World.alloc (World.alloc w _) _) _) _=W
   obtain ⟨hk3,hB⟩:=alloc4 hW hws
   clear hW
   have r0:=hk3.cell 0
   have r1:=hk3.cell 1
   have r2:=hk3.cell 2
   have r3:=hk3.cell 3
   have r4:=hk3.cell 4
   have r5:=hk3.cell 5
   have r6:=hk3.cell 6
   have r7:=hk3.cell 7
   have r8:=hk3.cell 8
   have r9:=hk3.cell 9
   simp only [gA,gB,gC] at r0 r1 r2 r3 r4 r5 r6 r7 r8 r9
   refine bodyPost_ret (v:=.tuple #[U,.int .i64 0]) ?_ rfl ⟨rfl,hB⟩
   rw [<-HU.out]
   simp [results,Tryz.results24,go_sem,r0,r1,r2,r3,r4,r5,r6,r7,r8,r9,mvV,mvA,MV.setN,HLEN.out]
end Go.Proofs.YtpmfdlghckfgiaaGreat
set_option linter.unusedVariables false
set_option maxRecDepth 100000
set_option maxHeartbeats 16000000
namespace Go.Proofs.YtpmfdlghckfgiaaGreat
open Go.RowKit
theorem rset_none (m:MV) (num t i:Int) (fnum fw:Int) (fn:Nat) (fA:Option Addr) (xl fc:Nat) (fat:Int) (w:World) (hp:plB t i=false) :
  Calls Tryz.prog 24 #[mvV m,.agg #[.int .i64 num,.int .i64 t,.int .i64 i],.agg #[.int .i64 fnum,.int .u8 fw,.int .u64 (fn:Int),.slice fA xl fc,.int .i64 fat]] w fun e w'=>e=.returned (.tuple #[mvV ZM,.int .i64 7])/\Below w.heap.size w w':=by
 have hp':¬ ((1<=t/\t<=6)/\0<=i/\i < 6)/\¬ ((7<=t/\t<=9)/\0<=i/\i < 2)/\¬ t=10:=by
  unfold plB at hp
  simp only [Bool.or_eq_false_iff,decide_eq_false_iff_not] at hp
  exact ⟨hp.1.1,hp.1.2,hp.2⟩
 have h10:(t == 10)=false:=by simp;exact hp'.2.2
 have hZ:mvV ZM=.agg #[.int .u8 0,.int .u64 0,.int .u64 0,.int .u64 0,.int .u64 0,.int .u64 0,.int .u64 0,.string ⟨#[]⟩,.string ⟨#[]⟩,.slice none 0 0]:=rfl
 rw [hZ]
 unfold mvV mvA
 obtain ⟨len,hlen⟩:∃ n,m.l.length=n:=⟨_,rfl⟩
 simp only [hlen]
 clear hlen
 obtain ⟨s,hws⟩:∃ s,w.heap.size=s:=⟨_,rfl⟩
 rw [hws]
 rcases (show t < 1\/10 < t\/((1<=t/\t<=6)/\i < 0)\/((1<=t/\t<=6)/\6<=i)\/((7<=t/\t<=9)/\i < 0)\/((7<=t/\t<=9)/\2<=i) by omega) with h | h | ⟨h,hi⟩ | ⟨h,hi⟩ | ⟨h,hi⟩ | ⟨h,hi⟩
 ·have d0:decide (1<=t)=false:=by simp;omega
  have d1:decide (7<=t)=false:=by simp;omega
  clear hp hp' h
  go_enter Tryz.func24,Tryz.ntmps24
  go_wp2_with fail
  generalize hW:World.alloc (World.alloc (World.alloc (World.alloc w _) _) _) _=W
  obtain ⟨hk3,hB⟩:=alloc4 hW hws
  clear hW
  have r0:=hk3.cell 0
  have r1:=hk3.cell 1
  have r2:=hk3.cell 2
  have r3:=hk3.cell 3
  have r4:=hk3.cell 4
  have r5:=hk3.cell 5
  have r6:=hk3.cell 6
  have r7:=hk3.cell 7
  have r8:=hk3.cell 8
  have r9:=hk3.cell 9
  simp only [gA,gB,gC] at r0 r1 r2 r3 r4 r5 r6 r7 r8 r9
  refine bodyPost_ret (v:=.tuple #[.agg #[.int .u8 0,.int .u64 0,.int .u64 0,.int .u64 0,.int .u64 0,.int .u64 0,.int .u64 0,.string ⟨#[]⟩,.string ⟨#[]⟩,.slice none 0 0],.int .i64 7]) (by simp [results,Tryz.results24,go_sem,r0,r1,r2,r3,r4,r5,r6,r7,r8,r9]) rfl ⟨?_,hB⟩
  rfl
 ·have d0:decide (1<=t)=true:=by simp;omega
  have d1:decide (t<=6)=false:=by simp;omega
  have d2:decide (7<=t)=true:=by simp;omega
  have d3:decide (t<=9)=false:=by simp;omega
  clear hp hp' h
  go_enter Tryz.func24,Tryz.ntmps24
  go_wp2_with fail
  generalize hW:World.alloc (World.alloc (World.alloc (World.alloc w _) _) _) _=W
  obtain ⟨hk3,hB⟩:=alloc4 hW hws
  clear hW
  have r0:=hk3.cell 0
  have r1:=hk3.cell 1
  have r2:=hk3.cell 2
  have r3:=hk3.cell 3
  have r4:=hk3.cell 4
  have r5:=hk3.cell 5
  have r6:=hk3.cell 6
  have r7:=hk3.cell 7
  have r8:=hk3.cell 8
  have r9:=hk3.cell 9
  simp only [gA,gB,gC] at r0 r1 r2 r3 r4 r5 r6 r7 r8 r9
  refine bodyPost_ret (v:=.tuple #[.agg #[.int .u8 0,.int .u64 0,.int .u64 0,.int .u64 0,.int .u64 0,.int .u64 0,.int .u64 0,.string ⟨#[]⟩,.string ⟨#[]⟩,.slice none 0 0],.int .i64 7]) (by simp [results,Tryz.results24,go_sem,r0,r1,r2,r3,r4,r5,r6,r7,r8,r9]) rfl ⟨?_,hB⟩
  rfl
 ·have d0:decide (1<=t)=true:=by simp;omega
  have d1:decide (t<=6)=true:=by simp;omega
  have d2:decide (0<=i)=false:=by simp;omega
  have d3:decide (7<=t)=false:=by simp;omega
  clear hp hp' h hi
  go_enter Tryz.func24,Tryz.ntmps24
  go_wp2_with fail
  generalize hW:World.alloc (World.alloc (World.alloc (World.alloc w _) _) _) _=W
  obtain ⟨hk3,hB⟩:=alloc4 hW hws
  clear hW
  have r0:=hk3.cell 0
  have r1:=hk3.cell 1
  have r2:=hk3.cell 2
  have r3:=hk3.cell 3
  have r4:=hk3.cell 4
  have r5:=hk3.cell 5
  have r6:=hk3.cell 6
  have r7:=hk3.cell 7
  have r8:=hk3.cell 8
  have r9:=hk3.cell 9
  simp only [gA,gB,gC] at r0 r1 r2 r3 r4 r5 r6 r7 r8 r9
  refine bodyPost_ret (v:=.tuple #[.agg #[.int .u8 0,.int .u64 0,.int .u64 0,.int .u64 0,.int .u64 0,.int .u64 0,.int .u64 0,.string ⟨#[]⟩,.string ⟨#[]⟩,.slice none 0 0],.int .i64 7]) (by simp [results,Tryz.results24,go_sem,r0,r1,r2,r3,r4,r5,r6,r7,r8,r9]) rfl ⟨?_,hB⟩
  rfl
 ·have d0:decide (1<=t)=true:=by simp;omega
  have d1:decide (t<=6)=true:=by simp;omega
  have d2:decide (0<=i)=true:=by simp;omega
  have d3:decide (i < 6)=false:=by simp;omega
  have d4:decide (7<=t)=false:=by simp;omega
  clear hp hp' h hi
  go_enter Tryz.func24,Tryz.ntmps24
  go_wp2_with fail
  generalize hW:World.alloc (World.alloc (World.alloc (World.alloc w _) _) _) _=W
  obtain ⟨hk3,hB⟩:=alloc4 hW hws
  clear hW
  have r0:=hk3.cell 0
  have r1:=hk3.cell 1
  have r2:=hk3.cell 2
  have r3:=hk3.cell 3
  have r4:=hk3.cell 4
  have r5:=hk3.cell 5
  have r6:=hk3.cell 6
  have r7:=hk3.cell 7
  have r8:=hk3.cell 8
  have r9:=hk3.cell 9
  simp only [gA,gB,gC] at r0 r1 r2 r3 r4 r5 r6 r7 r8 r9
  refine bodyPost_ret (v:=.tuple #[.agg #[.int .u8 0,.int .u64 0,.int .u64 0,.int .u64 0,.int .u64 0,.int .u64 0,.int .u64 0,.string ⟨#[]⟩,.string ⟨#[]⟩,.slice none 0 0],.int .i64 7]) (by simp [results,Tryz.results24,go_sem,r0,r1,r2,r3,r4,r5,r6,r7,r8,r9]) rfl ⟨?_,hB⟩
  rfl
 ·have d0:decide (1<=t)=true:=by simp;omega
  have d1:decide (t<=6)=false:=by simp;omega
  have d2:decide (7<=t)=true:=by simp;omega
  have d3:decide (t<=9)=true:=by simp;omega
  have d4:decide (0<=i)=false:=by simp;omega
  clear hp hp' h hi
  go_enter Tryz.func24,Tryz.ntmps24
  go_wp2_with fail
  generalize hW:World.alloc (World.alloc (World.alloc (World.alloc w _) _) _) _=W
  obtain ⟨hk3,hB⟩:=alloc4 hW hws
  clear hW
  have r0:=hk3.cell 0
  have r1:=hk3.cell 1
  have r2:=hk3.cell 2
  have r3:=hk3.cell 3
  have r4:=hk3.cell 4
  have r5:=hk3.cell 5
  have r6:=hk3.cell 6
  have r7:=hk3.cell 7
  have r8:=hk3.cell 8
  have r9:=hk3.cell 9
  simp only [gA,gB,gC] at r0 r1 r2 r3 r4 r5 r6 r7 r8 r9
  refine bodyPost_ret (v:=.tuple #[.agg #[.int .u8 0,.int .u64 0,.int .u64 0,.int .u64 0,.int .u64 0,.int .u64 0,.int .u64 0,.string ⟨#[]⟩,.string ⟨#[]⟩,.slice none 0 0],.int .i64 7]) (by simp [results,Tryz.results24,go_sem,r0,r1,r2,r3,r4,r5,r6,r7,r8,r9]) rfl ⟨?_,hB⟩
  rfl
 ·have d0:decide (1<=t)=true:=by simp;omega
  have d1:decide (t<=6)=false:=by simp;omega
  have d2:decide (7<=t)=true:=by simp;omega
  have d3:decide (t<=9)=true:=by simp;omega
  have d4:decide (0<=i)=true:=by simp;omega
  have d5:decide (i < 2)=false:=by simp;omega
  clear hp hp' h hi
  go_enter Tryz.func24,Tryz.ntmps24
  go_wp2_with fail
  generalize hW:World.alloc (World.alloc (World.alloc (World.alloc w _) _) _) _=W
  obtain ⟨hk3,hB⟩:=alloc4 hW hws
  clear hW
  have r0:=hk3.cell 0
  have r1:=hk3.cell 1
  have r2:=hk3.cell 2
  have r3:=hk3.cell 3
  have r4:=hk3.cell 4
  have r5:=hk3.cell 5
  have r6:=hk3.cell 6
  have r7:=hk3.cell 7
  have r8:=hk3.cell 8
  have r9:=hk3.cell 9
  simp only [gA,gB,gC] at r0 r1 r2 r3 r4 r5 r6 r7 r8 r9
  refine bodyPost_ret (v:=.tuple #[.agg #[.int .u8 0,.int .u64 0,.int .u64 0,.int .u64 0,.int .u64 0,.int .u64 0,.int .u64 0,.string ⟨#[]⟩,.string ⟨#[]⟩,.slice none 0 0],.int .i64 7]) (by simp [results,Tryz.results24,go_sem,r0,r1,r2,r3,r4,r5,r6,r7,r8,r9]) rfl ⟨?_,hB⟩
  rfl
end Go.Proofs.YtpmfdlghckfgiaaGreat
set_option linter.unusedVariables false
set_option maxRecDepth 100000
set_option maxHeartbeats 16000000
namespace Go.Proofs.YtpmfdlghckfgiaaGreat
open Go.RowKit
def fvR (r:RF × Nat):FV:=⟨r.1.num,r.1.w,r.1.n,⟨none,0,r.1.xs⟩,(r.2:Int)⟩
theorem fvR_all:∀ rs:List (RF × Nat),fvAll (rs.map fvR) rs
 | []=>trivial
 | r :: rs=>⟨⟨rfl,rfl,rfl,rfl,rfl⟩,fvR_all rs⟩
theorem flds_ok {bs:List UInt8} (h:(flds bs bs.length 0).2.1=0):∀ f ∈ (flds bs bs.length 0).1,RdOk f:=by
 intro f hf
 have hall:=fvR_all (flds bs bs.length 0).1
 have h1:=(read_ok bs bs.length 0 _ (by omega) hall).2 (fvR f) (List.mem_map_of_mem hf)
 have h2:=(again_all bs bs.length 0 _ (by omega) h hall).1 (fvR f) (List.mem_map_of_mem hf)
 refine ⟨h1.2.2.1,fun h5=>?_⟩
 have h3:=h2.2.1
 unfold bareN at h3
 have e5:(fvR f).w=5:=h5
 rw [if_neg (by rw [e5];decide),if_pos e5] at h3
 have e6:(fvR f).n=f.1.n:=rfl
 rw [e6] at h3
 omega
theorem read_good (k:Nat) (v:Int) (bs:List UInt8):((readR k v bs).2.2.1 ≠ 0/\(readR k v bs).1=ZM/\(readR k v bs).2.1=[])\/((readR k v bs).2.2=(0,0)/\Good k v (readR k v bs).1/\(ofL (k:Int) v).length ≠ 0):=by
 unfold readR
 by_cases hL:(ofL (k:Int) v).length=0
 ·rw [if_pos hL];exact .inl ⟨by decide,rfl,rfl⟩
 ·rw [if_neg hL]
  by_cases hl:8192 < bs.length
  ·rw [if_pos hl];exact .inl ⟨by decide,rfl,rfl⟩
  ·rw [if_neg hl]
   by_cases hF:(flds bs bs.length 0).2.1=0
   ·rw [if_neg (by rw [hF];simp)]
    by_cases hD:(decF (ofL (k:Int) v) { ZM with k:=k } (flds bs bs.length 0).1).2.2.1=0
    ·rw [if_neg (by rw [hD];simp)]
     refine .inr ⟨?_,good_dec _ _ (good_zero k v) (flds_ok hF) hD,hL⟩
     have:∀ (l:List (RF × Nat)) (M:MV),(decF (ofL (k:Int) v) M l).2.2.1=0->(decF (ofL (k:Int) v) M l).2.2=(0,0):=by
      intro l
      induction l with
      | nil=>intro M _;rfl
      | cons f l ih =>
       intro M h
       cases ho:ownR (ofL (k:Int) v) f.1.num f.1.w with
       | none=>rw [decF_none ho] at h ⊢;exact ih M h
       | some r =>
        by_cases hs:setE M (r.typ:Int) (r.slot:Int) (rfS f)=0
        ·rw [decF_ok ho hs] at h ⊢;exact ih _ h
        ·rw [decF_bad ho hs] at h;exact absurd h hs
     exact this _ _ hD
    ·rw [if_pos hD];exact .inl ⟨hD,rfl,rfl⟩
   ·rw [if_pos hF];exact .inl ⟨by simpa using hF,rfl,rfl⟩
theorem chk_small {s:ByteArray} {most:Int} (h:chk s most=0) (hm:most<=7000):s.size<=7000:=by
 have:=chk_size h
 have e:s.data.toList.length=s.size:=by simp
 omega
theorem good_texts {k:Nat} {v:Int} {m:MV} (h:Good k v m):(∀ i,(m.text i).size<=7000)/\∀ x ∈ m.l,x.size<=7000:=by
 have e0:(⟨#[]⟩:ByteArray).size=0:=rfl
 refine ⟨fun i=>?_,fun x hx=>?_⟩
 ·rcases text_top m i with ⟨j,hj,rfl⟩ | h0
  ·cases hm:mkS (ofL (k:Int) v) j with
   | false=>rw [h.s j hj hm,e0];omega
   | true =>
    unfold mkS at hm
    obtain ⟨r,hr,hp⟩:=List.any_eq_true.1 hm
    simp only [decide_eq_true_eq] at hp
    have hf:=h.f r hr
    obtain ⟨⟨h7,h9⟩,rfl⟩:=hp
    cases hd:dflB m (r.typ:Nat) (r.slot:Nat) with
    | true =>
     unfold dflB at hd
     rw [if_neg (by omega),if_pos (by omega)] at hd
     have:m.text (r.slot:Int)=⟨#[]⟩:=by simpa using hd
     rw [this,e0];omega
    | false =>
     have hw:=fldE_wrong hf hd
     unfold wrongE at hw
     rw [if_neg (by omega),if_neg (by omega),if_pos (by omega)] at hw
     refine chk_small hw ?_
     unfold mostN
     split <;> (try split) <;> (try split) <;> omega
  ·rw [h0,e0];omega
 ·cases hm:mkL (ofL (k:Int) v) with
  | false=>rw [h.l hm] at hx;simp at hx
  | true =>
   unfold mkL at hm
   obtain ⟨r,hr,hp⟩:=List.any_eq_true.1 hm
   simp only [decide_eq_true_eq] at hp
   exact chk_small ((fldE_list hp (h.f r hr)).2 x hx) (by decide)
theorem good_mvok {k:Nat} {v:Int} {m:MV} {w:World} (h:Good k v m) (hk:k<=255) {A:Option Addr} {c:Nat} (hs:Sl w A c (m.l.map sv)):MvOk w { m with A:=A,c:=c }:=by
 have ht:=good_texts h
 exact ⟨by rw [show ({ m with A:=A,c:=c }:MV).k=m.k from rfl,h.hk];exact hk,fun i=>h.hn i,fun i=>Nat.le_trans (ht.1 i) (by omega),fun x hx=>Nat.le_trans (ht.2 x hx) (by omega),hs⟩
end Go.Proofs.YtpmfdlghckfgiaaGreat
