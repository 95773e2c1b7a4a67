/- lenient.Decode and lenient.Unknown. · The document's Set of lists. · The document's Set, whole. · strict.unlike: where bytes are unlike. · What strict tells: mathematics. -/
import Derived.Test.YtpmfdlghckfgiaaGreatLenRd2
import Derived.Test.YtpmfdlghckfgiaaGreatLenRefS
import Derived.Test.YtpmfdlghckfgiaaGreatG20
import Derived.Test.YtpmfdlghckfgiaaGreatG24
import Derived.BigQuiet
import Derived.Deep.QuietTactic
set_option linter.unusedVariables false
set_option maxRecDepth 100000
set_option maxHeartbeats 16000000
namespace Go.Proofs.YtpmfdlghckfgiaaGreat
open Go.RowKit
theorem lread_any (k:Nat) (v:Int) (bs:List UInt8) (n:Nat) (A:Option Addr) (c:Nat) (w:World) (hk:k<=255) (hv1 : -9223372036854775808<=v) (hv2:v<=9223372036854775807) (hn:bs.length=n) (hs:Sl w A c (bs.map bv)) :
  Calls Tryz.prog 30 #[.int .u8 (k:Int),.int .i64 v,.slice A n c] w (ReadR w (readR k v bs)):=by
 refine (callsIn_wide (n:=12)).1 ?_
 by_cases hL:(ofL (k:Int) v).length=0
 ·exact lread_none 12 (by omega) k v bs n A c w hk hv1 hv2 hL
 ·by_cases hl:8192 < n
  ·exact lread_long 12 (by omega) k v bs n A c w hk hv1 hv2 hL hn hl
  ·by_cases hF:(flds bs n 0).2.1=0
   ·exact lread_main 12 (by omega) k v bs n A c w hk hv1 hv2 hL hn (by omega) hs hF
   ·exact lread_bad 12 (by omega) k v bs n A c w hk hv1 hv2 hL hn (by omega) hs hF
def DecR (w:World) (R:MV × List (RF × Nat) × Int × Nat) (e:Ending) (w':World):Prop :=
 ∃ (A':Option Addr) (c':Nat),e=.returned (.tuple #[mvV { R.1 with A:=A',c:=c' },.agg #[.int .i64 R.2.2.1,.int .i64 (R.2.2.2:Nat)]])/\w'.ownsRow w.heap.size 9 1 (.slice A' R.1.l.length c') R.1.l.length (R.1.l.map sv)/\Below w.heap.size w w'
def DcR2 (s q:Nat) (mk n0 n1 n2 n3 n4 n5:Nat) (s0 s1:ByteArray) (mA:Option Addr) (ml mc:Nat) (E P:Int) (a0:Act) (w0:World) (f:Nat->Bool) (a:Act) (w:World):Prop:=∃ x0 x1:Value,a=((a0.put (some 19) x0).put (some 20) x1)/\(f 0=true->x0=.agg #[.int .u8 (mk:Int),.int .u64 (n0:Int),.int .u64 (n1:Int),.int .u64 (n2:Int),.int .u64 (n3:Int),.int .u64 (n4:Int),.int .u64 (n5:Int),.string s0,.string s1,.slice mA ml mc])/\(f 1=true->x1=.agg #[.int .i64 E,.int .i64 P])/\Blk w (s) 29 (if f 2=true then #[.int .u8 (mk:Int),.int .u64 (n0:Int),.int .u64 (n1:Int),.int .u64 (n2:Int),.int .u64 (n3:Int),.int .u64 (n4:Int),.int .u64 (n5:Int),.string s0,.string s1,.slice mA ml mc] else #[.int .u8 0,.int .u64 0,.int .u64 0,.int .u64 0,.int .u64 0,.int .u64 0,.int .u64 0,.string ⟨#[]⟩,.string ⟨#[]⟩,.slice none 0 0])/\Blk w (s+1) 32 (if f 3=true then #[.int .i64 E,.int .i64 P] else #[.int .i64 0,.int .i64 0])/\Chg (fun q=>q=s\/q=s+1) w0 w
theorem ldec_any (k:Nat) (v:Int) (bs:List UInt8) (n:Nat) (A:Option Addr) (c:Nat) (w:World) (hk:k<=255) (hv1 : -9223372036854775808<=v) (hv2:v<=9223372036854775807) (hn:bs.length=n) (hs:Sl w A c (bs.map bv)) :
  Calls Tryz.prog 19 #[.int .u8 (k:Int),.int .i64 v,.slice A n c] w (DecR w (readR k v bs)):=by
 have hrd:=fun W (hW:Below w.heap.size w W)=>lread_any k v bs n A c W hk hv1 hv2 hn (hs.below hW)
 obtain ⟨R,hR⟩:∃ R,readR k v bs=R:=⟨_,rfl⟩
 rw [hR]
 obtain ⟨M,oth,E,P⟩:=R
 rw [hR] at hrd
 obtain ⟨Q,hQ⟩:∃ Q,Q=DecR w (M,oth,E,P):=⟨_,rfl⟩
 rw [<-hQ]
 obtain ⟨s,hsz⟩:∃ s,w.heap.size=s:=⟨_,rfl⟩
 have hq:∀ A' c' w' ,True->w'.ownsRow s 9 1 (.slice A' M.l.length c') M.l.length (M.l.map sv)->Below s w w'->Q (.returned (.tuple #[mvV { M with A:=A',c:=c' },.agg #[.int .i64 E,.int .i64 (P:Nat)]])) w':=fun A' c' w' _ h1 h2=>by rw [hQ];exact ⟨A',c',rfl,by rw [hsz];exact h1,by rw [hsz];exact h2⟩
 have hrd2:=fun W (hW:Below s w W)=>(hrd W (by rw [hsz];exact hW)).mono (R':=fun e w'=>∃ (A':Option Addr) (c':Nat) (uv:Value),e=.returned (.tuple #[mvV { M with A:=A',c:=c' },uv,.agg #[.int .i64 E,.int .i64 (P:Nat)]])/\w'.ownsRow W.heap.size 9 1 (.slice A' M.l.length c') M.l.length (M.l.map sv)/\Below W.heap.size W w') (by
  rintro e w' ⟨A',c',pre,Ao,co,rfl,h1,-,-,-,h2⟩
  exact ⟨A',c',_,rfl,h1,h2⟩)
 clear hrd hR hQ
 obtain ⟨mk,n0,n1,n2,n3,n4,n5,s0,s1,A0,c0,l⟩:=M
 unfold mvV mvA at hq hrd2
 simp only at hq hrd2
 generalize hlm:l.map sv=lm at *
 generalize hml:l.length=ml at *
 generalize ((P:Nat):Int)=P at *
 have HQ:=hid (fun A' c' w'=>hq A' c' w' trivial)
 have HRD:=hid hrd2
 clear hq hrd2 hlm hml
 have hk0:Blk ((w.alloc (.cells #[.int .u8 0,.int .u64 0,.int .u64 0,.int .u64 0,.int .u64 0,.int .u64 0,.int .u64 0,.string ⟨#[]⟩,.string ⟨#[]⟩,.slice none 0 0] 29)).alloc (.cells #[.int .i64 0,.int .i64 0] 32)) s 29 #[.int .u8 0,.int .u64 0,.int .u64 0,.int .u64 0,.int .u64 0,.int .u64 0,.int .u64 0,.string ⟨#[]⟩,.string ⟨#[]⟩,.slice none 0 0]:=by rw [<-hsz];exact (Blk.new w _ _).alloc _
 have hk1:Blk ((w.alloc (.cells #[.int .u8 0,.int .u64 0,.int .u64 0,.int .u64 0,.int .u64 0,.int .u64 0,.int .u64 0,.string ⟨#[]⟩,.string ⟨#[]⟩,.slice none 0 0] 29)).alloc (.cells #[.int .i64 0,.int .i64 0] 32)) (s+1) 32 #[.int .i64 0,.int .i64 0]:=by
  have h:=Blk.new (w.alloc (.cells #[.int .u8 0,.int .u64 0,.int .u64 0,.int .u64 0,.int .u64 0,.int .u64 0,.int .u64 0,.string ⟨#[]⟩,.string ⟨#[]⟩,.slice none 0 0] 29)) 32 #[.int .i64 0,.int .i64 0]
  rw [World.size_alloc,hsz] at h;exact h
 have hb0:Below s w ((w.alloc (.cells #[.int .u8 0,.int .u64 0,.int .u64 0,.int .u64 0,.int .u64 0,.int .u64 0,.int .u64 0,.string ⟨#[]⟩,.string ⟨#[]⟩,.slice none 0 0] 29)).alloc (.cells #[.int .i64 0,.int .i64 0] 32)):=by rw [<-hsz];exact bw_a (bw_a (Below.refl _ w) _) _
 have hz0:(((w.alloc (.cells #[.int .u8 0,.int .u64 0,.int .u64 0,.int .u64 0,.int .u64 0,.int .u64 0,.int .u64 0,.string ⟨#[]⟩,.string ⟨#[]⟩,.slice none 0 0] 29)).alloc (.cells #[.int .i64 0,.int .i64 0] 32))).heap.size=s+2:=by simp [hsz]
 have HK0:=hid hk0
 have HK1:=hid hk1
 have HB0:=hid hb0
 have HZ0:=hid hz0
 clear hk0 hk1 hb0 hz0 hs
 go_enter Tryz.func19,Tryz.ntmps19
 go_wp2_with fail
 refine (HRD.out _ HB0.out).mono ?_
 rintro e w1 ⟨A',c',uv,rfl,hom,hb1⟩
 rw [HZ0.out] at hom hb1
 have hk0:=HK0.out.below hb1 (by omega)
 have hk1:=HK1.out.below hb1 (by omega)
 have hbe:=HB0.out.trans (hb1.mono (by omega))
 have hs1:s+2<=w1.heap.size:=by have:=hb1.size;rw [HZ0.out] at this;exact this
 have HK2:=hid hk0
 have HK3:=hid hk1
 have HOM:=hid hom
 have HB1:=hid hbe
 clear HK0 HK1 HB0 HZ0 hom hb1 hbe hk0 hk1 HRD
 go_wp2_with fail
 obtain ⟨q,hq⟩:∃ q,w1.heap.size=q:=⟨_,rfl⟩
 have hkm:Blk ((w1.alloc (.cells #[.int .u8 (mk:Int),.int .u64 (n0:Int),.int .u64 (n1:Int),.int .u64 (n2:Int),.int .u64 (n3:Int),.int .u64 (n4:Int),.int .u64 (n5:Int),.string s0,.string s1,.slice A' ml c'] 29)).alloc (.cells #[.int .i64 E,.int .i64 P] 32)) q 29 #[.int .u8 (mk:Int),.int .u64 (n0:Int),.int .u64 (n1:Int),.int .u64 (n2:Int),.int .u64 (n3:Int),.int .u64 (n4:Int),.int .u64 (n5:Int),.string s0,.string s1,.slice A' ml c']:=by rw [<-hq];exact (Blk.new w1 _ _).alloc _
 have hkf:Blk ((w1.alloc (.cells #[.int .u8 (mk:Int),.int .u64 (n0:Int),.int .u64 (n1:Int),.int .u64 (n2:Int),.int .u64 (n3:Int),.int .u64 (n4:Int),.int .u64 (n5:Int),.string s0,.string s1,.slice A' ml c'] 29)).alloc (.cells #[.int .i64 E,.int .i64 P] 32)) (q+1) 32 #[.int .i64 E,.int .i64 P]:=by
  have h:=Blk.new (w1.alloc (.cells #[.int .u8 (mk:Int),.int .u64 (n0:Int),.int .u64 (n1:Int),.int .u64 (n2:Int),.int .u64 (n3:Int),.int .u64 (n4:Int),.int .u64 (n5:Int),.string s0,.string s1,.slice A' ml c'] 29)) 32 #[.int .i64 E,.int .i64 P]
  rw [World.size_alloc,hq] at h;exact h
 have hk0:=(HK2.out.alloc (.cells #[.int .u8 (mk:Int),.int .u64 (n0:Int),.int .u64 (n1:Int),.int .u64 (n2:Int),.int .u64 (n3:Int),.int .u64 (n4:Int),.int .u64 (n5:Int),.string s0,.string s1,.slice A' ml c'] 29)).alloc (.cells #[.int .i64 E,.int .i64 P] 32)
 have hk1:=(HK3.out.alloc (.cells #[.int .u8 (mk:Int),.int .u64 (n0:Int),.int .u64 (n1:Int),.int .u64 (n2:Int),.int .u64 (n3:Int),.int .u64 (n4:Int),.int .u64 (n5:Int),.string s0,.string s1,.slice A' ml c'] 29)).alloc (.cells #[.int .i64 E,.int .i64 P] 32)
 have hom:=(HOM.out.alloc (.cells #[.int .u8 (mk:Int),.int .u64 (n0:Int),.int .u64 (n1:Int),.int .u64 (n2:Int),.int .u64 (n3:Int),.int .u64 (n4:Int),.int .u64 (n5:Int),.string s0,.string s1,.slice A' ml c'] 29)).alloc (.cells #[.int .i64 E,.int .i64 P] 32)
 have hbe:=((HB1.out.alloc (by omega) (.cells #[.int .u8 (mk:Int),.int .u64 (n0:Int),.int .u64 (n1:Int),.int .u64 (n2:Int),.int .u64 (n3:Int),.int .u64 (n4:Int),.int .u64 (n5:Int),.string s0,.string s1,.slice A' ml c'] 29)).alloc (by simp;omega) (.cells #[.int .i64 E,.int .i64 P] 32))
 rw [hq] at hs1
 try rw [hq]
 generalize ((w1.alloc (.cells #[.int .u8 (mk:Int),.int .u64 (n0:Int),.int .u64 (n1:Int),.int .u64 (n2:Int),.int .u64 (n3:Int),.int .u64 (n4:Int),.int .u64 (n5:Int),.string s0,.string s1,.slice A' ml c'] 29)).alloc (.cells #[.int .i64 E,.int .i64 P] 32))=W4 at *
 have HKM:=hid hkm
 have HKF:=hid hkf
 have HO:=hid hom
 have HBE:=hid hbe
 have HD0:=hid hk0
 have HD1:=hid hk1
 clear hkm hkf hom hbe hk0 hk1 HK2 HK3 HOM HB1 hq
 refine wp_region_invB (by kernel_rfl) (by kernel_rfl) (DcR2 s q mk n0 n1 n2 n3 n4 n5 s0 s1 A' ml c' E P) ?_ ?_ ?_
 ·exact ⟨undef,undef,(by first | (simp only [Act.put,gD,gE,gF];done) | rfl),by simp,by simp,(by simp;exact (HD0.out)),(by simp;exact (HD1.out)),⟨rfl,rfl,rfl,Nat.le_refl _,fun _ _ _=>rfl⟩⟩
 ·intro f a' wx i o ho hf hdep hI
  have hi:i < 4:=(Array.getElem?_eq_some_iff.1 ho).1
  have hcase:i=0\/i=1\/i=2\/i=3:=by omega
  clear hi
  rcases hcase with rfl | rfl | rfl | rfl
  all_goals
   simp only [gA,gB,gC,Option.some.injEq] at ho
   subst ho
  ·skip
   obtain ⟨x0,x1,rfl,h0,h1,k2,k3,hC⟩:=hI
   have hb:=hC.blk HKM.out (by omega)
   have t0:=hb.cell 0;have t1:=hb.cell 1;have t2:=hb.cell 2;have t3:=hb.cell 3;have t4:=hb.cell 4;have t5:=hb.cell 5;have t6:=hb.cell 6;have t7:=hb.cell 7;have t8:=hb.cell 8;have t9:=hb.cell 9
   simp only [gA,gB,gC] at t0 t1 t2 t3 t4 t5 t6 t7 t8 t9
   clear hb
   have H0':=hid h0;have H1':=hid h1;have K2':=hid k2;have K3':=hid k3;have HC':=hid hC;clear h0 h1 k2 k3 hC
   try simp only [Act.put,gD,gE,gF]
   go_wp2_with fail
   have h0:=H0'.out;have h1:=H1'.out;have k2:=K2'.out;have k3:=K3'.out;have hC:=HC'.out
   exact ⟨_,x1,(by first | (simp only [Act.put,gD,gE,gF];done) | rfl),(fun _=>rfl),(fun h=>h1 (by simpa using h)),(by simpa using k2),(by simpa using k3),hC⟩
  ·skip
   obtain ⟨x0,x1,rfl,h0,h1,k2,k3,hC⟩:=hI
   have hb:=hC.blk HKF.out (by omega)
   have t0:=hb.cell 0
   have t1:=hb.cell 1
   simp only [gA,gB,gC] at t0 t1
   clear hb
   have H0':=hid h0;have H1':=hid h1;have K2':=hid k2;have K3':=hid k3;have HC':=hid hC;clear h0 h1 k2 k3 hC
   try simp only [Act.put,gD,gE,gF]
   go_wp2_with fail
   have h0:=H0'.out;have h1:=H1'.out;have k2:=K2'.out;have k3:=K3'.out;have hC:=HC'.out
   exact ⟨x0,_,(by first | (simp only [Act.put,gD,gE,gF];done) | rfl),(fun h=>h0 (by simpa using h)),(fun _=>rfl),(by simpa using k2),(by simpa using k3),hC⟩
  ·skip
   obtain ⟨x0,x1,rfl,h0,h1,k2,k3,hC⟩:=hI
   simp [Region.binds] at hdep
   obtain rfl:=h0 (by first | exact hdep | exact hdep.1 | exact hdep.2 | exact hdep.2.1 | exact hdep.2.2 | exact hdep.2.2.1 | exact hdep.2.2.2 | simp_all)
   have hko:Blk wx (s) 29 #[.int .u8 0,.int .u64 0,.int .u64 0,.int .u64 0,.int .u64 0,.int .u64 0,.int .u64 0,.string ⟨#[]⟩,.string ⟨#[]⟩,.slice none 0 0]:=by have h:=k2;rw [hf] at h;simpa using h
   have y0:=hko.cell 0;have z0:=hko.frozen 0
   have y1:=hko.cell 1;have z1:=hko.frozen 1
   have y2:=hko.cell 2;have z2:=hko.frozen 2
   have y3:=hko.cell 3;have z3:=hko.frozen 3
   have y4:=hko.cell 4;have z4:=hko.frozen 4
   have y5:=hko.cell 5;have z5:=hko.frozen 5
   have y6:=hko.cell 6;have z6:=hko.frozen 6
   have y7:=hko.cell 7;have z7:=hko.frozen 7
   have y8:=hko.cell 8;have z8:=hko.frozen 8
   have y9:=hko.cell 9;have z9:=hko.frozen 9
   simp only [gA,gB,gC] at y0 y1 y2 y3 y4 y5 y6 y7 y8 y9
   have HKO:=hid hko;clear hko
   have H0':=hid h0;have H1':=hid h1;have K2':=hid k2;have K3':=hid k3;have HC':=hid hC;clear h0 h1 k2 k3 hC
   try simp only [Act.put,gD,gE,gF]
   go_wp2_with fail
   have h0:=H0'.out;have h1:=H1'.out;have k2:=K2'.out;have k3:=K3'.out;have hC:=HC'.out
   obtain ⟨hkn,hcn⟩:=mstore HKO.out _ _ _ _ _ _ _ _ _ _
   exact ⟨_,x1,(by first | (simp only [Act.put,gD,gE,gF];done) | rfl),(fun _=>rfl),(fun h=>h1 (by simpa using h)),(by simpa using hkn),(hcn.blk (by simpa using k3) (by omega)),(hC.trans (hcn.mono (fun q _ hq=>by subst hq;simp)))⟩
  ·skip
   obtain ⟨x0,x1,rfl,h0,h1,k2,k3,hC⟩:=hI
   simp [Region.binds] at hdep
   obtain rfl:=h1 (by first | exact hdep | exact hdep.1 | exact hdep.2 | exact hdep.2.1 | exact hdep.2.2 | exact hdep.2.2.1 | exact hdep.2.2.2 | simp_all)
   have hko:Blk wx (s+1) 32 #[.int .i64 0,.int .i64 0]:=by have h:=k3;rw [hf] at h;simpa using h
   have y0:=hko.cell 0;have z0:=hko.frozen 0
   have y1:=hko.cell 1;have z1:=hko.frozen 1
   simp only [gA,gB,gC] at y0 y1
   have HKO:=hid hko;clear hko
   have H0':=hid h0;have H1':=hid h1;have K2':=hid k2;have K3':=hid k3;have HC':=hid hC;clear h0 h1 k2 k3 hC
   try simp only [Act.put,gD,gE,gF]
   go_wp2_with fail
   have h0:=H0'.out;have h1:=H1'.out;have k2:=K2'.out;have k3:=K3'.out;have hC:=HC'.out
   obtain ⟨hkn,hcn⟩:=fstore HKO.out _ _
   exact ⟨x0,_,(by first | (simp only [Act.put,gD,gE,gF];done) | rfl),(fun h=>h0 (by simpa using h)),(fun _=>rfl),(hcn.blk (by simpa using k2) (by omega)),(by simpa using hkn),(hC.trans (hcn.mono (fun q _ hq=>by subst hq;simp)))⟩
 ·intro f a' wx hall hI
  obtain ⟨x0,x1,rfl,h0,h1,k2,k3,hC⟩:=hI
  obtain rfl:=h0 (hall 0 (by simp))
  obtain rfl:=h1 (hall 1 (by simp))
  have kf2:=k2;rw [hall 2 (by simp),if_pos rfl] at kf2
  have kf3:=k3;rw [hall 3 (by simp),if_pos rfl] at kf3
  clear h0 h1 k2 k3 hall f
  try simp only [Act.put,gD,gE,gF]
  go_wp2_with fail
  have r0:=kf2.cell 0;have r1:=kf2.cell 1;have r2:=kf2.cell 2;have r3:=kf2.cell 3;have r4:=kf2.cell 4;have r5:=kf2.cell 5;have r6:=kf2.cell 6;have r7:=kf2.cell 7;have r8:=kf2.cell 8;have r9:=kf2.cell 9
  have y0:=kf3.cell 0
  have y1:=kf3.cell 1
  simp only [gA,gB,gC] at r0 r1 r2 r3 r4 r5 r6 r7 r8 r9 y0 y1
  have hbR:=HBE.out.trans (hC.below (B:=s) (fun x hx=>by omega) (by have:=HKM.out.lt;omega))
  have hoR:=own_chgS HO.out hC (fun g hg hx=>by have:=(HO.out.lt g hg).1;omega)
  refine bodyPost_ret (v:=.tuple #[.agg #[.int .u8 (mk:Int),.int .u64 (n0:Int),.int .u64 (n1:Int),.int .u64 (n2:Int),.int .u64 (n3:Int),.int .u64 (n4:Int),.int .u64 (n5:Int),.string s0,.string s1,.slice A' ml c'],.agg #[.int .i64 E,.int .i64 P]]) (by simp [results,Tryz.results19,go_sem,r0,r1,r2,r3,r4,r5,r6,r7,r8,r9,y0,y1]) rfl ?_
  exact HQ.out _ _ _ (own_mono hoR (by omega)) hbR
end Go.Proofs.YtpmfdlghckfgiaaGreat
set_option linter.unusedVariables false
set_option maxRecDepth 100000
set_option maxHeartbeats 16000000
namespace Go.Proofs.YtpmfdlghckfgiaaGreat
open Go.RowKit
theorem rset_long (m:MV) (num i:Int) (fnum fw:Int) (fn:Nat) (fA:Option Addr) (xl fc:Nat) (fat:Int) (xs:List UInt8) (w:World) (hxl:xs.length=xl) (hx:xl<=9223372036854775807) (hsf:Sl w fA fc (xs.map bv)) (h64:64<=m.l.length) :
  Calls Tryz.prog 24 #[mvV m,.agg #[.int .i64 num,.int .i64 10,.int .i64 i],.agg #[.int .i64 fnum,.int .u8 fw,.int .u64 (fn:Int),.slice fA xl fc,.int .i64 fat]] w fun e w'=>e=.returned (.tuple #[mvV ZM,.int .i64 2])/\Below w.heap.size w w':=by
 have hZ:mvV ZM=.agg #[.int .u8 0,.int .u64 0,.int .u64 0,.int .u64 0,.int .u64 0,.int .u64 0,.int .u64 0,.string ⟨#[]⟩,.string ⟨#[]⟩,.slice none 0 0]:=rfl
 rw [hZ]
 unfold mvV mvA
 obtain ⟨len,hlen⟩:∃ n,m.l.length=n:=⟨_,rfl⟩
 rw [hlen] at h64
 rw [hlen]
 obtain ⟨mk,n0,n1,n2,n3,n4,n5,s0,s1,mA,mc,ml⟩:=m
 simp only at hlen ⊢
 obtain ⟨s,hws⟩:∃ s,w.heap.size=s:=⟨_,rfl⟩
 obtain ⟨hk0,hk1,hk2,hk3,hb4⟩:=bx4 hws #[.int .u8 (mk:Int),.int .u64 (n0:Int),.int .u64 (n1:Int),.int .u64 (n2:Int),.int .u64 (n3:Int),.int .u64 (n4:Int),.int .u64 (n5:Int),.string s0,.string s1,.slice mA len mc] #[.int .i64 num,.int .i64 10,.int .i64 i] #[.int .i64 fnum,.int .u8 fw,.int .u64 (fn:Int),.slice fA xl fc,.int .i64 fat] #[.int .u8 0,.int .u64 0,.int .u64 0,.int .u64 0,.int .u64 0,.int .u64 0,.int .u64 0,.string ⟨#[]⟩,.string ⟨#[]⟩,.slice none 0 0] 29 57 61 29
 have hlen64:¬ (len:Int) < 64:=by omega
 have hlen65:(64:Int)<=(len:Int):=by omega
 have HK0:=hid hk0
 have HK1:=hid hk1
 have HK2:=hid hk2
 have HK3:=hid hk3
 have HB4:=hid hb4
 clear hk0 hk1 hk2 hk3 hb4 hsf hxl hlen hZ
 rw [hws]
 go_enter Tryz.func24,Tryz.ntmps24
 go_wp2_with fail
 generalize ((((w.alloc (.cells #[.int .u8 (mk:Int),.int .u64 (n0:Int),.int .u64 (n1:Int),.int .u64 (n2:Int),.int .u64 (n3:Int),.int .u64 (n4:Int),.int .u64 (n5:Int),.string s0,.string s1,.slice mA len mc] 29)).alloc (.cells #[.int .i64 num,.int .i64 10,.int .i64 i] 57)).alloc (.cells #[.int .i64 fnum,.int .u8 fw,.int .u64 (fn:Int),.slice fA xl fc,.int .i64 fat] 61)).alloc (.cells #[.int .u8 0,.int .u64 0,.int .u64 0,.int .u64 0,.int .u64 0,.int .u64 0,.int .u64 0,.string ⟨#[]⟩,.string ⟨#[]⟩,.slice none 0 0] 29))=W4 at *
 have r0:=HK3.out.cell 0;have r1:=HK3.out.cell 1;have r2:=HK3.out.cell 2;have r3:=HK3.out.cell 3;have r4:=HK3.out.cell 4;have r5:=HK3.out.cell 5;have r6:=HK3.out.cell 6;have r7:=HK3.out.cell 7;have r8:=HK3.out.cell 8;have r9:=HK3.out.cell 9
 simp only [gA,gB,gC] at r0 r1 r2 r3 r4 r5 r6 r7 r8 r9
 exact bodyPost_ret (v:=.tuple #[.agg #[.int .u8 0,.int .u64 0,.int .u64 0,.int .u64 0,.int .u64 0,.int .u64 0,.int .u64 0,.string ⟨#[]⟩,.string ⟨#[]⟩,.slice none 0 0],.int .i64 2]) (by simp [results,Tryz.results24,go_sem,r0,r1,r2,r3,r4,r5,r6,r7,r8,r9]) rfl ⟨rfl,HB4.out⟩
theorem rset_lbad (m:MV) (num i:Int) (fnum fw:Int) (fn:Nat) (fA:Option Addr) (xl fc:Nat) (fat:Int) (xs:List UInt8) (w:World) (hxl:xs.length=xl) (hx:xl<=9223372036854775807) (hsf:Sl w fA fc (xs.map bv)) (h64:m.l.length < 64) (hE:chk ⟨xs.toArray⟩ 64 ≠ 0) :
  Calls Tryz.prog 24 #[mvV m,.agg #[.int .i64 num,.int .i64 10,.int .i64 i],.agg #[.int .i64 fnum,.int .u8 fw,.int .u64 (fn:Int),.slice fA xl fc,.int .i64 fat]] w fun e w'=>e=.returned (.tuple #[mvV ZM,.int .i64 (chk ⟨xs.toArray⟩ 64)])/\Below w.heap.size w w':=by
 have hq:(⟨xs.toArray⟩:ByteArray).size<=9223372036854775807:=by show xs.toArray.size<=_;simp;omega
 have hch:=fun W=>rchk_any ⟨xs.toArray⟩ 64 W hq (by decide) (by decide)
 generalize chk ⟨xs.toArray⟩ 64=E at *
 obtain ⟨q,hqe⟩:∃ q:ByteArray,(⟨xs.toArray⟩:ByteArray)=q:=⟨_,rfl⟩
 have hcv:∀ W,Below w.heap.size w W->(convert 22 9 (.slice fA xl fc)).run Tryz.prog W=.ok (.string q) W:=fun W hW=>by
  rw [<-hqe];exact conv_bs11 (hsf.below hW) hxl Tryz.underlying22 Tryz.underlying5 Tryz.underlying9
 rw [hqe] at hch
 have hZ:mvV ZM=.agg #[.int .u8 0,.int .u64 0,.int .u64 0,.int .u64 0,.int .u64 0,.int .u64 0,.int .u64 0,.string ⟨#[]⟩,.string ⟨#[]⟩,.slice none 0 0]:=rfl
 rw [hZ]
 unfold mvV mvA
 obtain ⟨len,hlen⟩:∃ n,m.l.length=n:=⟨_,rfl⟩
 rw [hlen] at h64
 rw [hlen]
 obtain ⟨mk,n0,n1,n2,n3,n4,n5,s0,s1,mA,mc,ml⟩:=m
 simp only at hlen ⊢
 obtain ⟨s,hws⟩:∃ s,w.heap.size=s:=⟨_,rfl⟩
 obtain ⟨hk0,hk1,hk2,hk3,hb4⟩:=bx4 hws #[.int .u8 (mk:Int),.int .u64 (n0:Int),.int .u64 (n1:Int),.int .u64 (n2:Int),.int .u64 (n3:Int),.int .u64 (n4:Int),.int .u64 (n5:Int),.string s0,.string s1,.slice mA len mc] #[.int .i64 num,.int .i64 10,.int .i64 i] #[.int .i64 fnum,.int .u8 fw,.int .u64 (fn:Int),.slice fA xl fc,.int .i64 fat] #[.int .u8 0,.int .u64 0,.int .u64 0,.int .u64 0,.int .u64 0,.int .u64 0,.int .u64 0,.string ⟨#[]⟩,.string ⟨#[]⟩,.slice none 0 0] 29 57 61 29
 have hlen64:(len:Int) < 64:=by omega
 have hlen65:¬ (64:Int)<=(len:Int):=by omega
 have hEb:(E != 0)=true:=by simpa using hE
 have hcx:=hcv _ (by rw [hws];exact hb4)
 have HK0:=hid hk0
 have HK1:=hid hk1
 have HK2:=hid hk2
 have HK3:=hid hk3
 have HB4:=hid hb4
 have HCH:=hid hch
 clear hk0 hk1 hk2 hk3 hb4 hsf hxl hlen hZ hcv hch hqe hq hE
 rw [hws]
 go_enter Tryz.func24,Tryz.ntmps24
 go_wp2_with (go_at_call 37;refine (HCH.out _).mono ?_;rintro e w' ⟨rfl,rfl⟩)
 generalize ((((w.alloc (.cells #[.int .u8 (mk:Int),.int .u64 (n0:Int),.int .u64 (n1:Int),.int .u64 (n2:Int),.int .u64 (n3:Int),.int .u64 (n4:Int),.int .u64 (n5:Int),.string s0,.string s1,.slice mA len mc] 29)).alloc (.cells #[.int .i64 num,.int .i64 10,.int .i64 i] 57)).alloc (.cells #[.int .i64 fnum,.int .u8 fw,.int .u64 (fn:Int),.slice fA xl fc,.int .i64 fat] 61)).alloc (.cells #[.int .u8 0,.int .u64 0,.int .u64 0,.int .u64 0,.int .u64 0,.int .u64 0,.int .u64 0,.string ⟨#[]⟩,.string ⟨#[]⟩,.slice none 0 0] 29))=W4 at *
 have r0:=HK3.out.cell 0;have r1:=HK3.out.cell 1;have r2:=HK3.out.cell 2;have r3:=HK3.out.cell 3;have r4:=HK3.out.cell 4;have r5:=HK3.out.cell 5;have r6:=HK3.out.cell 6;have r7:=HK3.out.cell 7;have r8:=HK3.out.cell 8;have r9:=HK3.out.cell 9
 simp only [gA,gB,gC] at r0 r1 r2 r3 r4 r5 r6 r7 r8 r9
 exact bodyPost_ret (v:=.tuple #[.agg #[.int .u8 0,.int .u64 0,.int .u64 0,.int .u64 0,.int .u64 0,.int .u64 0,.int .u64 0,.string ⟨#[]⟩,.string ⟨#[]⟩,.slice none 0 0],.int .i64 E]) (by simp [results,Tryz.results24,go_sem,r0,r1,r2,r3,r4,r5,r6,r7,r8,r9]) rfl ⟨rfl,HB4.out⟩
theorem rset_list (m:MV) (num i:Int) (fnum fw:Int) (fn:Nat) (fA:Option Addr) (xl fc:Nat) (fat:Int) (xs:List UInt8) (w:World) (hxl:xs.length=xl) (hx:xl<=9223372036854775807) (hsf:Sl w fA fc (xs.map bv)) (h64:m.l.length < 64) (hE:chk ⟨xs.toArray⟩ 64=0) (hsm:Sl w m.A m.c (m.l.map sv)) :
  Calls Tryz.prog 24 #[mvV m,.agg #[.int .i64 num,.int .i64 10,.int .i64 i],.agg #[.int .i64 fnum,.int .u8 fw,.int .u64 (fn:Int),.slice fA xl fc,.int .i64 fat]] w fun e w'=>∃ A' c',e=.returned (.tuple #[mvV { m with l:=m.l++[⟨xs.toArray⟩],A:=A',c:=c' },.int .i64 0])/\w'.ownsRow w.heap.size 9 1 (.slice A' (m.l++[(⟨xs.toArray⟩:ByteArray)]).length c') (m.l++[(⟨xs.toArray⟩:ByteArray)]).length ((m.l++[(⟨xs.toArray⟩:ByteArray)]).map sv)/\Below w.heap.size w w':=by
 obtain ⟨i5,hi5,hi50,hi51,hi52⟩:=info_parts Tryz.infoStr
 have hq:(⟨xs.toArray⟩:ByteArray).size<=9223372036854775807:=by show xs.toArray.size<=_;simp;omega
 have hch:=fun W=>rchk_any ⟨xs.toArray⟩ 64 W hq (by decide) (by decide)
 rw [hE] at hch
 obtain ⟨q,hqe⟩:∃ q:ByteArray,(⟨xs.toArray⟩:ByteArray)=q:=⟨_,rfl⟩
 have hcv:∀ W,Below w.heap.size w W->(convert 22 9 (.slice fA xl fc)).run Tryz.prog W=.ok (.string q) W:=fun W hW=>by
  rw [<-hqe];exact conv_bs11 (hsf.below hW) hxl Tryz.underlying22 Tryz.underlying5 Tryz.underlying9
 rw [hqe] at hch ⊢
 obtain ⟨Q,hQ⟩:∃ Q:Ending->World->Prop,Q=fun e w'=>∃ A' c',e=.returned (.tuple #[mvV { m with l:=m.l++[q],A:=A',c:=c' },.int .i64 0])/\w'.ownsRow w.heap.size 9 1 (.slice A' (m.l++[q]).length c') (m.l++[q]).length ((m.l++[q]).map sv)/\Below w.heap.size w w':=⟨_,rfl⟩
 rw [<-hQ]
 have hqq:∀ A' c' w' ul,ul=m.l.length+1->w'.ownsRow w.heap.size 9 1 (.slice A' ul c') ul ((m.l++[q]).map sv)->Below w.heap.size w w'->Q (.returned (.tuple #[.agg #[.int .u8 (m.k:Int),.int .u64 (m.n0:Int),.int .u64 (m.n1:Int),.int .u64 (m.n2:Int),.int .u64 (m.n3:Int),.int .u64 (m.n4:Int),.int .u64 (m.n5:Int),.string m.s0,.string m.s1,.slice A' ul c'],.int .i64 0])) w':=fun A' c' w' ul h0 h1 h2=>by
  have h3:(m.l++[q]).length=ul:=by simp;omega
  rw [hQ];subst h3;exact ⟨A',c',rfl,h1,h2⟩
 clear hQ
 unfold mvV mvA
 obtain ⟨len,hlen⟩:∃ n,m.l.length=n:=⟨_,rfl⟩
 rw [hlen] at h64 hqq ⊢
 obtain ⟨mk,n0,n1,n2,n3,n4,n5,s0,s1,mA,mc,ml⟩:=m
 simp only at hlen hqq hsm ⊢
 obtain ⟨s,hws⟩:∃ s,w.heap.size=s:=⟨_,rfl⟩
 obtain ⟨hk0,hk1,hk2,hk3,hb4⟩:=bx4 hws #[.int .u8 (mk:Int),.int .u64 (n0:Int),.int .u64 (n1:Int),.int .u64 (n2:Int),.int .u64 (n3:Int),.int .u64 (n4:Int),.int .u64 (n5:Int),.string s0,.string s1,.slice mA len mc] #[.int .i64 num,.int .i64 10,.int .i64 i] #[.int .i64 fnum,.int .u8 fw,.int .u64 (fn:Int),.slice fA xl fc,.int .i64 fat] #[.int .u8 0,.int .u64 0,.int .u64 0,.int .u64 0,.int .u64 0,.int .u64 0,.int .u64 0,.string ⟨#[]⟩,.string ⟨#[]⟩,.slice none 0 0] 29 57 61 29
 rw [hws] at hqq hcv
 have hlen64:(len:Int) < 64:=by omega
 have hlen65:¬ (64:Int)<=(len:Int):=by omega
 have hcx:=hcv _ hb4
 have HK0:=hid hk0
 have HK1:=hid hk1
 have HK2:=hid hk2
 have HK3:=hid hk3
 have HB4:=hid hb4
 have HCH:=hid hch
 have HCV:=hid hcv
 have HQ:=hid hqq
 have HSM:=hid hsm
 have HLN:=hid hlen
 clear hk0 hk1 hk2 hk3 hb4 hsf hxl hcv hch hqe hq hE hqq hsm hlen
 go_enter Tryz.func24,Tryz.ntmps24
 go_wp2_with (go_at_call 37;refine (HCH.out _).mono ?_;rintro e w' ⟨rfl,rfl⟩)
 clear hcx
 have hz4':(((((w.alloc (.cells #[.int .u8 (mk:Int),.int .u64 (n0:Int),.int .u64 (n1:Int),.int .u64 (n2:Int),.int .u64 (n3:Int),.int .u64 (n4:Int),.int .u64 (n5:Int),.string s0,.string s1,.slice mA len mc] 29)).alloc (.cells #[.int .i64 num,.int .i64 10,.int .i64 i] 57)).alloc (.cells #[.int .i64 fnum,.int .u8 fw,.int .u64 (fn:Int),.slice fA xl fc,.int .i64 fat] 61)).alloc (.cells #[.int .u8 0,.int .u64 0,.int .u64 0,.int .u64 0,.int .u64 0,.int .u64 0,.int .u64 0,.string ⟨#[]⟩,.string ⟨#[]⟩,.slice none 0 0] 29))).heap.size=s+4:=by simp [hws]
 generalize ((((w.alloc (.cells #[.int .u8 (mk:Int),.int .u64 (n0:Int),.int .u64 (n1:Int),.int .u64 (n2:Int),.int .u64 (n3:Int),.int .u64 (n4:Int),.int .u64 (n5:Int),.string s0,.string s1,.slice mA len mc] 29)).alloc (.cells #[.int .i64 num,.int .i64 10,.int .i64 i] 57)).alloc (.cells #[.int .i64 fnum,.int .u8 fw,.int .u64 (fn:Int),.slice fA xl fc,.int .i64 fat] 61)).alloc (.cells #[.int .u8 0,.int .u64 0,.int .u64 0,.int .u64 0,.int .u64 0,.int .u64 0,.int .u64 0,.string ⟨#[]⟩,.string ⟨#[]⟩,.slice none 0 0] 29))=W4 at *
 go_loopw [12,13] (fun v i wr=>∃ j:Nat,j<=len/\i=.int .i64 (j:Int)/\wr.ownsRow (s+4) 9 1 v j ((ml.take j).map sv)/\Below (s+4) W4 wr) (fun _ i _=>len - (intOf i).toNat)
 case atStart=>exact ⟨0,by omega,rfl,World.ownsRow_nil _ _ _ _,Below.refl _ _⟩
 case round =>
  obtain ⟨j,hj,rfl,ho,hB⟩:=hrel
  have hz4:s+4<=W4.heap.size:=by have:=HK3.out.lt;omega
  have hk0:=HK0.out.below hB (by omega)
  have hsw:=(HSM.out.below (by rw [hws];exact HB4.out)).rd
  by_cases hlt:j < len
  ·have hjl:j < ml.length:=by have:=HLN.out;omega
   obtain ⟨bb,off,hA,hb,t0⟩:=hsw j (sv ml[j]) (by rw [List.getElem?_map,List.getElem?_eq_getElem hjl];rfl)
   subst hA
   have t1:=(hB.cell (p:=⟨bb,off+j,none⟩) (by show bb < s+4;omega)).trans t0
   have c9:=hk0.cell 9
   simp only [gA,gB,gC] at c9
   have hji:(j:Int) < (len:Int):=by omega
   have hj0:(0:Int)<=(j:Int):=by omega
   have htk:(ml.take (j+1)).map sv=(ml.take j).map sv++[.string ml[j]]:=by rw [List.take_succ_eq_append_getElem hjl,List.map_append];rfl
   have hzr:=hB.size
   have hbw:bb < wr.heap.size:=by omega
   have hlr:=hk0.lt
   unfold sv at t1
   have HTK:=hid htk
   have HB:=hid hB
   have HO:=hid ho
   generalize ml[j]=mlj at *
   clear hk0 hsw t0 htk hB ho
   go_wp2_with (at_builtin;refine wpList_append_rd rfl (.tmp 162) (.tmp 168) 27 rfl (s+4) 9 i5 (.string ⟨#[]⟩) 1 16 Tryz.underlying27 hi5 hi50 hi51 hi52 rfl (by decide) u12 j ((ml.take j).map sv) rfl (HO.out.alloc _) (some ⟨wr.heap.size,0,none⟩) 1 1 [.string mlj] rfl rfl (Rd.new wr 9 #[.string mlj]) (fun h=>by cases h) (by simp [Value.oneCell']) (by simp only [maxLen];omega) (by omega) (by simp;omega) ?_;intro v3 w3 hown3 hgrow3;have hc3:=Chg.of_grown (S:=fun x=>s+4<=x) hgrow3 (fun g e=>(HO.out.lt g e).1);have HO3:=hid hown3;have HB3:=hid ((HB.out.alloc (by omega) (.cells #[.string mlj] 9)).trans (hc3.below (B:=s+4) (fun x hx=>hx) (by simp;omega)));clear hown3 hgrow3 hc3)
   go_roundw
   case rel=>exact ⟨j+1,by omega,by go_num,by rw [HTK.out];exact HO3.out,HB3.out⟩
   case measure=>simp [intOf];omega
  ·obtain rfl:j=len:=by omega
   rw [List.take_of_length_le (by have:=HLN.out;omega)] at ho
   have k0:=HK0.out.below hB (by omega)
   have k2:=HK2.out.below hB (by omega)
   have k3:=HK3.out.below hB (by omega)
   have hBw:=HB4.out.trans (hB.mono (by omega))
   have hcx:=HCV.out wr hBw
   have hzr:=hB.size
   have a0:=k0.cell 0;have a1:=k0.cell 1;have a2:=k0.cell 2;have a3:=k0.cell 3;have a4:=k0.cell 4;have a5:=k0.cell 5;have a6:=k0.cell 6;have a7:=k0.cell 7;have a8:=k0.cell 8;have a9:=k0.cell 9
   have y3:=k2.cell 3
   simp only [gA,gB,gC] at a0 a1 a2 a3 a4 a5 a6 a7 a8 a9 y3
   have l0:=k0.lt
   have l3:=k3.lt
   have K0:=hid k0
   have K3:=hid k3
   have HB:=hid hBw
   have HO:=hid ho
   have hlt':¬ (j:Int) < (j:Int):=by omega
   clear hk0 hsw hB ho k0 k2 k3 hBw HB4 HK0 HK1 HK2 HK3 HSM
   go_wp2_with (at_builtin;refine wpList_append_rd rfl (.tmp 170) (.tmp 174) 27 rfl (s+4) 9 i5 (.string ⟨#[]⟩) 1 16 Tryz.underlying27 hi5 hi50 hi51 hi52 rfl (by decide) u12 j (ml.map sv) rfl (HO.out.alloc _) (some ⟨wr.heap.size,0,none⟩) 1 1 [.string q] rfl rfl (Rd.new wr 9 #[.string q]) (fun h=>by cases h) (by simp [Value.oneCell']) (by simp only [maxLen];omega) (by omega) (by simp;omega) ?_;intro v3 w3 hown3 hgrow3;obtain ⟨A9,q9,rfl⟩:=row_slice' hown3;have hc3:=((Chg.refl (fun x=>s+4<=x) wr).alloc (.cells #[.string q] 9)).trans (Chg.of_grown (S:=fun x=>s+4<=x) hgrow3 (fun g e=>(HO.out.lt g e).1));have k0:=hc3.blk K0.out (by omega);have k3:=hc3.blk K3.out (by omega);have HO3:=hid hown3;have HB3:=hid (HB.out.trans (hc3.below (B:=s) (fun x hx=>by omega) (by omega)));clear a0 a1 a2 a3 a4 a5 a6 a7 a8 a9 hcx;have a0:=k0.cell 0;have a1:=k0.cell 1;have a2:=k0.cell 2;have a3:=k0.cell 3;have a4:=k0.cell 4;have a5:=k0.cell 5;have a6:=k0.cell 6;have a7:=k0.cell 7;have a8:=k0.cell 8;have a9:=k0.cell 9;have f0:=k0.frozen 0;have f1:=k0.frozen 1;have f2:=k0.frozen 2;have f3:=k0.frozen 3;have f4:=k0.frozen 4;have f5:=k0.frozen 5;have f6:=k0.frozen 6;have f7:=k0.frozen 7;have f8:=k0.frozen 8;have f9:=k0.frozen 9;have b0:=k3.cell 0;have b1:=k3.cell 1;have b2:=k3.cell 2;have b3:=k3.cell 3;have b4:=k3.cell 4;have b5:=k3.cell 5;have b6:=k3.cell 6;have b7:=k3.cell 7;have b8:=k3.cell 8;have b9:=k3.cell 9;have g0:=k3.frozen 0;have g1:=k3.frozen 1;have g2:=k3.frozen 2;have g3:=k3.frozen 3;have g4:=k3.frozen 4;have g5:=k3.frozen 5;have g6:=k3.frozen 6;have g7:=k3.frozen 7;have g8:=k3.frozen 8;have g9:=k3.frozen 9;simp only [gA,gB,gC] at a0 a1 a2 a3 a4 a5 a6 a7 a8 a9 b0 b1 b2 b3 b4 b5 b6 b7 b8 b9;have l5:=k0.lt;have l6:=k3.lt;have K5:=hid k0;have K6:=hid k3;clear k0 k3 hown3 hgrow3 hc3)
   have hc1:Chg (fun x=>x=s) w3 (w3.setCell ⟨s,9,none⟩ (.slice A9 (j+1) q9)):=(Chg.refl (fun x=>x=s) w3).set_ (.inl rfl) 9 _
   have hs3:=hc1.blk K6.out (by omega)
   obtain ⟨h5,hc5⟩:=mstore hs3 (.int .u8 (mk:Int)) (.int .u64 (n0:Int)) (.int .u64 (n1:Int)) (.int .u64 (n2:Int)) (.int .u64 (n3:Int)) (.int .u64 (n4:Int)) (.int .u64 (n5:Int)) (.string s0) (.string s1) (.slice A9 (j+1) q9)
   have hbR:=(HB3.out.trans (hc1.below (B:=s) (fun x hx=>by omega) (by omega))).trans (hc5.below (B:=s) (fun x hx=>by omega) (by have:=hs3.lt;omega))
   have ho9:=own_chgS (own_chgS HO3.out hc1 (fun g hg hx=>by have:=(HO3.out.lt g hg).1;omega)) hc5 (fun g hg hx=>by have:=(HO3.out.lt g hg).1;omega)
   have r0:=h5.cell 0;have r1:=h5.cell 1;have r2:=h5.cell 2;have r3:=h5.cell 3;have r4:=h5.cell 4;have r5:=h5.cell 5;have r6:=h5.cell 6;have r7:=h5.cell 7;have r8:=h5.cell 8;have r9:=h5.cell 9
   simp only [gA,gB,gC] at r0 r1 r2 r3 r4 r5 r6 r7 r8 r9
   refine bodyPost_ret (v:=.tuple #[.agg #[.int .u8 (mk:Int),.int .u64 (n0:Int),.int .u64 (n1:Int),.int .u64 (n2:Int),.int .u64 (n3:Int),.int .u64 (n4:Int),.int .u64 (n5:Int),.string s0,.string s1,.slice A9 (j+1) q9],.int .i64 0]) (by simp [results,Tryz.results24,go_sem,r0,r1,r2,r3,r4,r5,r6,r7,r8,r9]) rfl ?_
   exact HQ.out A9 q9 _ _ rfl (by rw [List.map_append];exact own_mono ho9 (by omega)) hbR
end Go.Proofs.YtpmfdlghckfgiaaGreat
set_option linter.unusedVariables false
set_option maxRecDepth 100000
set_option maxHeartbeats 16000000
namespace Go.Proofs.YtpmfdlghckfgiaaGreat
open Go.RowKit
theorem rset_any (m:MV) (num t i:Int) (f:FV) (w:World) (hfn:f.n<=18446744073709551615) (hlm:m.l.length<=1000000) (hsm:Sl w m.A m.c (m.l.map sv)) (hx:f.s.xs.length<=9223372036854775807) (hsf:Sl w f.s.A f.s.c (f.s.xs.map bv)) :
  Calls Tryz.prog 24 #[mvV m,.agg #[.int .i64 num,.int .i64 t,.int .i64 i],.agg (fvC f).toArray] w fun e w'=>∃ A' c',e=.returned (.tuple #[mvV { setM m t i f.n (fvS f) with A:=A',c:=c' },.int .i64 (setE m t i (fvS f))])/\(((setM m t i f.n (fvS f)).l=[]/\A'=none/\c'=0)\/((setM m t i f.n (fvS f)).l=m.l/\A'=m.A/\c'=m.c)\/w'.ownsRow w.heap.size 9 1 (.slice A' (setM m t i f.n (fvS f)).l.length c') (setM m t i f.n (fvS f)).l.length ((setM m t i f.n (fvS f)).l.map sv))/\Below w.heap.size w w':=by
 cases hp:plB t i with
 | false =>
  have hE:setE m t i (fvS f)=7:=by unfold setE;rw [if_pos hp]
  have hM:setM m t i f.n (fvS f)=ZM:=by unfold setM;rw [if_pos (by rw [hE];decide)]
  rw [hE,hM]
  refine (rset_none m num t i f.num f.w f.n f.s.A f.s.xs.length f.s.c f.at_ w hp).mono ?_
  rintro e w' ⟨he,hb⟩
  exact ⟨none,0,he,.inl ⟨rfl,rfl,rfl⟩,hb⟩
 | true =>
  have hpl:((1<=t/\t<=6)/\0<=i/\i < 6)\/((7<=t/\t<=9)/\0<=i/\i < 2)\/t=10:=by
   have h:=hp
   unfold plB at h
   simp only [Bool.or_eq_true,decide_eq_true_eq] at h
   omega
  rcases hpl with ⟨h1,hi⟩ | ⟨h1,hi⟩ | rfl
  ·have hE:setE m t i (fvS f)=0:=by unfold setE;rw [if_neg (by rw [hp];simp),if_pos h1.2]
   have hM:setM m t i f.n (fvS f)=m.setN i (numV t f.n):=by unfold setM;rw [if_neg (by rw [hE];decide),if_pos h1.2]
   rw [hE,hM]
   refine (rset_num1 m num t i f.num f.w f.n f.s.A f.s.xs.length f.s.c f.at_ w (by omega) (by omega) hfn).mono ?_
   rintro e w' ⟨he,hb⟩
   exact ⟨m.A,m.c,he,.inr (.inl ⟨rfl,rfl,rfl⟩),hb⟩
  ·have hE:setE m t i (fvS f)=chk (fvS f) (mostN t:Nat):=by unfold setE;rw [if_neg (by rw [hp];simp),if_neg (by omega),if_pos h1.2]
   by_cases hc:chk (fvS f) (mostN t:Nat)=0
   ·have hM:setM m t i f.n (fvS f)=m.setS i (fvS f):=by unfold setM;rw [if_neg (by rw [hE,hc];decide),if_neg (by omega),if_pos h1.2]
    rw [hE,hM,hc]
    refine (rset_text0 m num t i f.num f.w f.n f.s.A f.s.xs.length f.s.c f.at_ f.s.xs w (by omega) (by omega) rfl hx hsf hc).mono ?_
    rintro e w' ⟨he,hb⟩
    exact ⟨m.A,m.c,he,.inr (.inl ⟨rfl,rfl,rfl⟩),hb⟩
   ·have hM:setM m t i f.n (fvS f)=ZM:=by unfold setM;rw [if_pos (by rw [hE];exact hc)]
    rw [hE,hM]
    refine (rset_text1 m num t i f.num f.w f.n f.s.A f.s.xs.length f.s.c f.at_ f.s.xs w (by omega) (by omega) rfl hx hsf hc).mono ?_
    rintro e w' ⟨he,hb⟩
    exact ⟨none,0,he,.inl ⟨rfl,rfl,rfl⟩,hb⟩
  ·by_cases h64:64<=m.l.length
   ·have hE:setE m 10 i (fvS f)=2:=by unfold setE;rw [if_neg (by rw [hp];simp),if_neg (by decide),if_neg (by decide),if_pos h64]
    have hM:setM m 10 i f.n (fvS f)=ZM:=by unfold setM;rw [if_pos (by rw [hE];decide)]
    rw [hE,hM]
    refine (rset_long m num i f.num f.w f.n f.s.A f.s.xs.length f.s.c f.at_ f.s.xs w rfl hx hsf h64).mono ?_
    rintro e w' ⟨he,hb⟩
    exact ⟨none,0,he,.inl ⟨rfl,rfl,rfl⟩,hb⟩
   ·have hE:setE m 10 i (fvS f)=chk (fvS f) 64:=by unfold setE;rw [if_neg (by rw [hp];simp),if_neg (by decide),if_neg (by decide),if_neg h64]
    by_cases hc:chk (fvS f) 64=0
    ·have hM:setM m 10 i f.n (fvS f)={ m with l:=m.l++[fvS f] }:=by unfold setM;rw [if_neg (by rw [hE,hc];decide),if_neg (by decide),if_neg (by decide)]
     rw [hE,hM,hc]
     refine (rset_list m num i f.num f.w f.n f.s.A f.s.xs.length f.s.c f.at_ f.s.xs w rfl hx hsf (by omega) hc hsm).mono ?_
     rintro e w' ⟨A',c',he,ho,hb⟩
     exact ⟨A',c',he,.inr (.inr ho),hb⟩
    ·have hM:setM m 10 i f.n (fvS f)=ZM:=by unfold setM;rw [if_pos (by rw [hE];exact hc)]
     rw [hE,hM]
     refine (rset_lbad m num i f.num f.w f.n f.s.A f.s.xs.length f.s.c f.at_ f.s.xs w rfl hx hsf (by omega) hc).mono ?_
     rintro e w' ⟨he,hb⟩
     exact ⟨none,0,he,.inl ⟨rfl,rfl,rfl⟩,hb⟩
theorem rset_own (m:MV) (A:Option Addr) (c:Nat) (num t i:Int) (f:FV) (w:World) (B:Nat) (hB:B<=w.heap.size) (hfn:f.n<=18446744073709551615) (hlm:m.l.length<=64) (hsm:w.ownsRow B 9 1 (.slice A m.l.length c) m.l.length (m.l.map sv)) (hx:f.s.xs.length<=9223372036854775807) (hsf:Sl w f.s.A f.s.c (f.s.xs.map bv)) :
  Calls Tryz.prog 24 #[mvV { m with A:=A,c:=c },.agg #[.int .i64 num,.int .i64 t,.int .i64 i],.agg (fvC f).toArray] w fun e w'=>∃ A' c',e=.returned (.tuple #[mvV { setM m t i f.n (fvS f) with A:=A',c:=c' },.int .i64 (setE m t i (fvS f))])/\w'.ownsRow B 9 1 (.slice A' (setM m t i f.n (fvS f)).l.length c') (setM m t i f.n (fvS f)).l.length ((setM m t i f.n (fvS f)).l.map sv)/\Below w.heap.size w w':=by
 obtain ⟨A2,c2,e2,-,hsl⟩:=Sl.of_own hsm
 injection e2 with e3 e4 e5
 subst e3
 subst e5
 refine (rset_any { m with A:=A,c:=c } num t i f w hfn (Nat.le_trans hlm (by omega)) hsl hx hsf).mono ?_
 rintro e w' ⟨A',c',he,ho,hb⟩
 have h1:=setM_ac m A A' c c' t i f.n (fvS f)
 have h2:=setM_acl m A c t i f.n (fvS f)
 rw [h1,setE_z] at he
 rw [h2] at ho
 refine ⟨A',c',he,?_,hb⟩
 rcases ho with ⟨g1,rfl,rfl⟩ | ⟨g1,rfl,rfl⟩ | g1
 ·rw [g1];exact World.ownsRow_nil _ _ _ _
 ·simp only at g1
  rw [g1]
  exact own_chgS hsm (Chg.of_new (S:=fun _=>False) hb) (fun _ _ h=>h)
 ·exact own_mono g1 hB
end Go.Proofs.YtpmfdlghckfgiaaGreat
set_option linter.unusedVariables false
set_option maxRecDepth 100000
set_option maxHeartbeats 16000000
namespace Go.Proofs.YtpmfdlghckfgiaaGreat
open Go.RowKit
def unl:List UInt8->List UInt8->Nat
 | a :: ta,b :: tb=>if a=b then unl ta tb+1 else 0
 | _,_=>0
theorem unl_eq:∀ (k:Nat) (xs ys:List UInt8),k<=xs.length->k<=ys.length->xs.take k=ys.take k->(xs.length=k\/ys.length=k\/∃ a b,xs[k]? = some a/\ys[k]? = some b/\a ≠ b)->unl xs ys=k
 | 0,[],_,_,_,_,_=>by unfold unl;rfl
 | 0,a :: ta,[],_,_,_,_=>by unfold unl;rfl
 | 0,a :: ta,b :: tb,_,_,_,h=>by
  rcases h with h | h | ⟨x,y,h1,h2,h3⟩
  ·simp at h
  ·simp at h
  ·simp at h1 h2;subst h1;subst h2;unfold unl;rw [if_neg h3]
 | k+1,[],_,h,_,_,_=>by simp at h
 | k+1,a :: ta,[],_,h,_,_=>by simp at h
 | k+1,a :: ta,b :: tb,h1,h2,h3,h4=>by
  simp only [List.take_succ_cons,List.cons.injEq] at h3
  obtain ⟨rfl,h3⟩:=h3
  unfold unl
  rw [if_pos rfl,unl_eq k ta tb (by simpa using h1) (by simpa using h2) h3 (by
   rcases h4 with h | h | ⟨x,y,g1,g2,g3⟩
   ·exact .inl (by simpa using h)
   ·exact .inr (.inl (by simpa using h))
   ·exact .inr (.inr ⟨x,y,by simpa using g1,by simpa using g2,g3⟩))]
theorem unl_le:∀ xs ys:List UInt8,unl xs ys<=xs.length/\unl xs ys<=ys.length
 | [],ys=>by unfold unl;simp
 | a :: ta,[]=>by unfold unl;simp
 | a :: ta,b :: tb=>by
  have:=unl_le ta tb
  unfold unl
  split <;> simp <;> omega
theorem unl_max:∀ xs ys:List UInt8,unl xs ys < max xs.length ys.length ↔ xs ≠ ys
 | [],[]=>by unfold unl;simp
 | [],b :: tb=>by unfold unl;simp
 | a :: ta,[]=>by unfold unl;simp
 | a :: ta,b :: tb=>by
  have h:=unl_max ta tb
  unfold unl
  by_cases hab:a=b
  ·subst hab
   rw [if_pos rfl]
   simp only [List.length_cons,ne_eq,List.cons.injEq,true_and]
   exact ⟨fun g=>h.1 (by omega),fun g=>by have:=h.2 g;omega⟩
  ·rw [if_neg hab]
   simp [hab]
theorem sunl_any (xs ys:List UInt8) (nx ny:Nat) (A B:Option Addr) (c d:Nat) (w:World) (hnx:xs.length=nx) (hny:ys.length=ny) (hl:nx<=9223372036854775807) (hl2:ny<=9223372036854775807) (hA:BRd w A xs) (hB:BRd w B ys) :
  Calls Tryz.prog 14 #[.slice A nx c,.slice B ny d] w fun e w'=>e=.returned (.int .i64 (unl xs ys:Nat))/\∃ n,w'=w.drewN n:=by
 have HX:=hid hnx
 have HY:=hid hny
 clear hnx hny
 obtain ⟨U,hU⟩:∃ U,unl xs ys=U:=⟨_,rfl⟩
 rw [hU]
 have HU:=hid hU
 clear hU
 go_enter Tryz.func14,Tryz.ntmps14
 go_wp2
 go_step3
 go_wp2
 go_step3
 go_wp2
 go_loopw [5] (fun i wr=>∃ k n:Nat,k<=nx/\k<=ny/\i=.int .i64 k/\wr=w.drewN n/\xs.take k=ys.take k) (fun i _=>nx - (intOf i).toNat)
 case atStart=>exact ⟨0,0,by omega,by omega,rfl,rfl,by simp⟩
 case round =>
  obtain ⟨k,n,hk,hk2,rfl,rfl,ht⟩:=hrel
  have HT:=hid ht
  clear ht
  by_cases hlt:k < nx
  ·by_cases hlt2:k < ny
   ·have g1:k < xs.length:=by have:=HX.out;omega
    have g2:k < ys.length:=by have:=HY.out;omega
    have hki:(k:Int) < (nx:Int):=by omega
    have hkj:(k:Int) < (ny:Int):=by omega
    obtain ⟨b1,o1,rfl,hb1,hc1⟩:=hA.at_ g1
    obtain ⟨b2,o2,rfl,hb2,hc2⟩:=hB.at_ g2
    by_cases hxy:xs[k]=ys[k]
    ·have htk:xs.take (k+1)=ys.take (k+1):=by rw [List.take_succ_eq_append_getElem g1,List.take_succ_eq_append_getElem g2,HT.out,hxy]
     have HTK:=hid htk
     rw [hxy] at hc1
     generalize hy:(ys[k].toNat:Int)=y at hc1 hc2
     clear hy hxy htk
     go_wp2
     go_quiet (fail)
     go_wp2
     go_roundw
     case rel=>exact ⟨k+1,_,by omega,by omega,by go_num,rfl,HTK.out⟩
     case measure=>simp [intOf];omega
    ·have hne:((xs[k].toNat:Int) != (ys[k].toNat:Int))=true:=by
      rw [bne_iff_ne];intro h;exact hxy (UInt8.toNat_inj.1 (by omega))
     have hun:=unl_eq k xs ys (by omega) (by omega) HT.out (.inr (.inr ⟨xs[k],ys[k],List.getElem?_eq_getElem g1,List.getElem?_eq_getElem g2,hxy⟩))
     have HUN:=hid hun
     clear hxy hun
     generalize (xs[k].toNat:Int)=x at *
     generalize (ys[k].toNat:Int)=y at *
     go_wp2
     go_quiet (fail)
     go_wp2
     try simp only [Exit.noGoto]
     try go_wp2
     go_ret
     exact ⟨by rw [<-HU.out,HUN.out];rfl,_,World.drewN_drewN ..⟩
   ·have hun:=unl_eq k xs ys (by have:=HX.out;omega) (by have:=HY.out;omega) HT.out (.inr (.inl (by have:=HY.out;omega)))
    have HUN:=hid hun
    have hki:(k:Int) < (nx:Int):=by omega
    have hkj:¬ (k:Int) < (ny:Int):=by omega
    clear hun
    go_wp2
    go_ret
    exact ⟨by rw [<-HU.out,HUN.out];rfl,_,rfl⟩
  ·have hun:=unl_eq k xs ys (by have:=HX.out;omega) (by have:=HY.out;omega) HT.out (.inl (by have:=HX.out;omega))
   have HUN:=hid hun
   have hki:¬ (k:Int) < (nx:Int):=by omega
   clear hun
   go_wp2
   go_ret
   exact ⟨by rw [<-HU.out,HUN.out];rfl,_,rfl⟩
end Go.Proofs.YtpmfdlghckfgiaaGreat
set_option linter.unusedVariables false
set_option maxRecDepth 100000
set_option maxHeartbeats 16000000
namespace Go.Proofs.YtpmfdlghckfgiaaGreat
open Go.RowKit
def strR (k:Nat) (v:Int) (bs:List UInt8):MV × List UInt8 × Int × Nat :=
 if (readR k v bs).2.2.1=0 then ((readR k v bs).1,encB (readR k v bs).1 (ofL (k:Int) v),0,0) else (ZM,[],(readR k v bs).2.2)
def strD (k:Nat) (v:Int) (bs:List UInt8):MV × Int × Nat :=
 if (readR k v bs).2.2.1=0 then (if encB (readR k v bs).1 (ofL (k:Int) v)=bs then ((readR k v bs).1,0,0) else (ZM,3,unl bs (encB (readR k v bs).1 (ofL (k:Int) v)))) else (ZM,(readR k v bs).2.2)
theorem good_sm {k:Nat} {v:Int} {m:MV} (h:Good k v m):MvSm m:=by
 have ht:=good_texts h
 refine ⟨?_,fun i=>Nat.le_trans (ht.1 i) (by omega),fun s hs=>Nat.le_trans (ht.2 s hs) (by omega)⟩
 cases hm:mkL (ofL (k:Int) v) with
 | false=>rw [h.l hm];simp
 | true =>
  unfold mkL at hm
  obtain ⟨r,hr,hp⟩:=List.any_eq_true.1 hm
  simp only [decide_eq_true_eq] at hp
  have:=(fldE_list hp (h.f r hr)).1
  omega
theorem str_ways (k:Nat) (v:Int) (bs:List UInt8) :
  (∃ E P,E ≠ 0/\readR k v bs=(ZM,[],E,P)/\strR k v bs=(ZM,[],E,P)/\strD k v bs=(ZM,E,P)) \/
  (∃ M O,readR k v bs=(M,O,0,0)/\Good k v M/\(ofL (k:Int) v).length ≠ 0/\chkV M (ofL (k:Int) v)=(0,0)/\strR k v bs=(M,encB M (ofL (k:Int) v),0,0)/\strD k v bs=if encB M (ofL (k:Int) v)=bs then (M,0,0) else (ZM,3,unl bs (encB M (ofL (k:Int) v)))):=by
 rcases read_good k v bs with ⟨h1,h2,h3⟩ | ⟨h1,h2,h3⟩
 ·left
  obtain ⟨R,hR⟩:∃ R,readR k v bs=R:=⟨_,rfl⟩
  unfold strR strD
  rw [hR] at h1 h2 h3 ⊢
  obtain ⟨M,O,E,P⟩:=R
  simp only at h1 h2 h3 ⊢
  subst h2;subst h3
  exact ⟨E,P,h1,rfl,by rw [if_neg h1],by rw [if_neg h1]⟩
 ·right
  obtain ⟨R,hR⟩:∃ R,readR k v bs=R:=⟨_,rfl⟩
  unfold strR strD
  rw [hR] at h1 h2 ⊢
  obtain ⟨M,O,E,P⟩:=R
  simp only [Prod.mk.injEq] at h1 h2 ⊢
  obtain ⟨rfl,rfl⟩:=h1
  exact ⟨M,O,⟨rfl,rfl,rfl,rfl⟩,h2,h3,good_chk h2 h3,by first | (rw [if_pos rfl];done) | simp,by first | (rw [if_pos rfl];done) | simp⟩
end Go.Proofs.YtpmfdlghckfgiaaGreat
