/- The document's Decode of layer 12. -/
import Derived.Test.YtpmfdlghckfgiaaGreatLenRDec
import Derived.Test.YtpmfdlghckfgiaaGreatStrDec
set_option linter.unusedVariables false
set_option maxRecDepth 100000
set_option maxHeartbeats 16000000
namespace Go.Proofs.YtpmfdlghckfgiaaGreat
open Go.RowKit
theorem rdec_p {k:Nat} {v:Int} {bs:List UInt8} {n:Nat} {A:Option Addr} {c:Nat} {w:World} (hk:k<=255) (hv1 : -9223372036854775808<=v) (hv2:v<=9223372036854775807) (hn:bs.length=n) (hs:Sl w A c (bs.map bv)) {R:MV} {O:List (RF × Nat)} {E:Int} {P:Nat} (hR:readR k v bs=(R,O,E,P)) :
  Calls Tryz.prog 15 #[.int .u8 (k:Int),.int .i64 v,.slice A n c] w fun e w'=>∃ A' c',e=.returned (.tuple #[.agg #[.int .u8 (R.k:Int),.int .u64 (R.n0:Int),.int .u64 (R.n1:Int),.int .u64 (R.n2:Int),.int .u64 (R.n3:Int),.int .u64 (R.n4:Int),.int .u64 (R.n5:Int),.string R.s0,.string R.s1,.slice A' R.l.length c'],.agg #[.int .i64 E,.int .i64 (P:Int)]])/\Ow w' w.heap.size 9 R.l.length A' c' (R.l.map sv)/\Below w.heap.size w w':=by
 refine (rdec11_any k v bs n A c w hk hv1 hv2 hn hs).mono ?_
 rw [hR]
 rintro e w' ⟨A',c',rfl,ho,hb⟩
 exact ⟨_,_,rfl,⟨ho⟩,hb⟩
theorem renc_good {k:Nat} {v:Int} {M:MV} (hk:k<=255) (hv1 : -9223372036854775808<=v) (hv2:v<=9223372036854775807) (hg:Good k v M) (hc:chkV M (ofL (k:Int) v)=(0,0)) (W:World) (A:Option Addr) (c:Nat) (hs:Sl W A c (M.l.map sv)) :
  Calls Tryz.prog 16 #[.agg #[.int .u8 (M.k:Int),.int .u64 (M.n0:Int),.int .u64 (M.n1:Int),.int .u64 (M.n2:Int),.int .u64 (M.n3:Int),.int .u64 (M.n4:Int),.int .u64 (M.n5:Int),.string M.s0,.string M.s1,.slice A M.l.length c],.int .i64 v] W fun e w'=>∃ Ao co,e=.returned (.tuple #[.slice Ao (encB M (ofL (k:Int) v)).length co,.agg #[.int .i64 0,.int .i64 0]])/\Sl w' Ao co ((encB M (ofL (k:Int) v)).map bv)/\Below W.heap.size W w':=by
 have hsm:=good_sm hg
 have h:=r10bytes_any { M with A:=A,c:=c } v W (good_mvok hg hk hs) ⟨hsm.l,hsm.s,hsm.e⟩ hv1 hv2
 have e1:encB { M with A:=A,c:=c } (ofL (M.k:Int) v)=encB M (ofL (k:Int) v):=(enc_alike (a:={ M with A:=A,c:=c }) (b:=M) ((sameB_iff _ _).2 ⟨rfl,⟨rfl,rfl,rfl,rfl,rfl,rfl⟩,⟨rfl,rfl⟩,rfl⟩)).trans (by rw [hg.hk])
 have e2:chkV { M with A:=A,c:=c } (ofL (M.k:Int) v)=(0,0):=by rw [chkV_ac,hg.hk];exact hc
 refine h.mono ?_
 rintro e w' ⟨vv,he,ho,hb⟩
 rw [show ({ M with A:=A,c:=c }:MV).k=M.k from rfl,e1] at ho
 rw [show ({ M with A:=A,c:=c }:MV).k=M.k from rfl,e2] at he
 obtain ⟨Ao,co,rfl,-,hsl⟩:=Sl.of_own ho
 exact ⟨Ao,co,he,hsl,hb⟩
def SrB3 (s q:Nat) (E P:Int) (a0:Act) (w0:World) (f:Nat->Bool) (a:Act) (w:World):Prop:=∃ x0 x1:Value,a=((a0.put (some 23) x0).put (some 24) x1)/\(f 0=true->x0=.agg #[.int .u8 0,.int .u64 0,.int .u64 0,.int .u64 0,.int .u64 0,.int .u64 0,.int .u64 0,.string ⟨#[]⟩,.string ⟨#[]⟩,.slice none 0 0])/\(f 1=true->x1=.agg #[.int .i64 E,.int .i64 P])/\Blk w (s) 29 (if f 2=true then #[.int .u8 0,.int .u64 0,.int .u64 0,.int .u64 0,.int .u64 0,.int .u64 0,.int .u64 0,.string ⟨#[]⟩,.string ⟨#[]⟩,.slice none 0 0] else #[.int .u8 0,.int .u64 0,.int .u64 0,.int .u64 0,.int .u64 0,.int .u64 0,.int .u64 0,.string ⟨#[]⟩,.string ⟨#[]⟩,.slice none 0 0])/\Blk w (s+1) 32 (if f 3=true then #[.int .i64 E,.int .i64 P] else #[.int .i64 0,.int .i64 0])/\Chg (fun q=>q=s\/q=s+1) w0 w
theorem rtd_bad (k:Nat) (v:Int) (bs:List UInt8) (n:Nat) (A:Option Addr) (c:Nat) (w:World) (hk:k<=255) (hv1 : -9223372036854775808<=v) (hv2:v<=9223372036854775807) (hn:bs.length=n) (hs:Sl w A c (bs.map bv)) {E:Int} {P:Nat} (hE:E ≠ 0) (hr:readR k v bs=(ZM,[],E,P)):Calls Tryz.prog 7 #[.int .u8 (k:Int),.int .i64 v,.slice A n c] w (TdcR w (ZM,E,P)):=by
 obtain ⟨s,hsz⟩:∃ s,w.heap.size=s:=⟨_,rfl⟩
 obtain ⟨W0,hW0⟩:∃ W0,((w.alloc (.cells #[.int .u8 0,.int .u64 0,.int .u64 0,.int .u64 0,.int .u64 0,.int .u64 0,.int .u64 0,.string ⟨#[]⟩,.string ⟨#[]⟩,.slice none 0 0] 29)).alloc (.cells #[.int .i64 0,.int .i64 0] 32))=W0:=⟨_,rfl⟩
 have hk6:Blk W0 s 29 #[.int .u8 0,.int .u64 0,.int .u64 0,.int .u64 0,.int .u64 0,.int .u64 0,.int .u64 0,.string ⟨#[]⟩,.string ⟨#[]⟩,.slice none 0 0]:=by rw [<-hW0,<-hsz];exact (Blk.new w _ _).alloc _
 have hk7:Blk W0 (s+1) 32 #[.int .i64 0,.int .i64 0]:=by
  have h:=Blk.new (w.alloc (.cells #[.int .u8 0,.int .u64 0,.int .u64 0,.int .u64 0,.int .u64 0,.int .u64 0,.int .u64 0,.string ⟨#[]⟩,.string ⟨#[]⟩,.slice none 0 0] 29)) 32 #[.int .i64 0,.int .i64 0]
  rw [World.size_alloc,hsz] at h;rw [<-hW0];exact h
 have hb0:Below s w W0:=by rw [<-hW0,<-hsz];exact bw_a (bw_a (Below.refl _ w) _) _
 have hsl:∀ W,Below s w W->Sl W A c (bs.map bv):=fun W hW=>hs.below (by rw [hsz];exact hW)
 have HSL:=hid hsl
 obtain ⟨Q,hQ⟩:∃ Q,Q=TdcR w (ZM,E,P):=⟨_,rfl⟩
 rw [<-hQ]
 have hq:∀ w',Below s w w'->Q (.returned (.tuple #[.agg #[.int .u8 0,.int .u64 0,.int .u64 0,.int .u64 0,.int .u64 0,.int .u64 0,.int .u64 0,.string ⟨#[]⟩,.string ⟨#[]⟩,.slice none 0 0],.agg #[.int .i64 E,.int .i64 (P:Int)]])) w':=fun w' h=>by rw [hQ];exact ⟨none,0,rfl,Ow.nil_ _ _ _,by rw [hsz];exact h⟩
 have hd:=fun W hW=>rdec_p (w:=W) hk hv1 hv2 hn (hsl W hW) hr
 generalize ((P:Nat):Int)=P at *
 have gb:(E != 0)=true:=by simpa using hE
 have HQ:=hid hq
 have HD:=hid hd
 have HW0:=hid hW0
 have HK6:=hid hk6
 have HK7:=hid hk7
 have HB0:=hid hb0
 clear hW0 hk6 hk7 hb0 hd hq hQ hs hsl hr hn
 go_enter Tryz.func7,Tryz.ntmps7
 go_wp2_with fail
 rw [HW0.out]
 refine (HD.out _ HB0.out).mono ?_
 rintro e w1 ⟨A1,c1,rfl,-,hb1⟩
 have hk6:=HK6.out.below hb1 HK6.out.lt
 have hk7:=HK7.out.below hb1 HK7.out.lt
 have hb01:Below s w w1:=HB0.out.trans (hb1.mono (by have:=HB0.out.size;omega))
 obtain ⟨p,hp⟩:∃ p,w1.heap.size=p:=⟨_,rfl⟩
 have hsp:s+2<=p:=by have:=hk7.lt;omega
 go_wp2_with fail
 obtain ⟨W3,hW3⟩:∃ W3,(w1.alloc (.cells #[.int .u8 (ZM.k:Int),.int .u64 (ZM.n0:Int),.int .u64 (ZM.n1:Int),.int .u64 (ZM.n2:Int),.int .u64 (ZM.n3:Int),.int .u64 (ZM.n4:Int),.int .u64 (ZM.n5:Int),.string ZM.s0,.string ZM.s1,.slice A1 ZM.l.length c1] 29)).alloc (.cells #[.int .i64 E,.int .i64 P] 32)=W3:=⟨_,rfl⟩
 have hkq:Blk W3 (p+1) 32 #[.int .i64 E,.int .i64 P]:=by
  have h:=Blk.new (w1.alloc (.cells #[.int .u8 (ZM.k:Int),.int .u64 (ZM.n0:Int),.int .u64 (ZM.n1:Int),.int .u64 (ZM.n2:Int),.int .u64 (ZM.n3:Int),.int .u64 (ZM.n4:Int),.int .u64 (ZM.n5:Int),.string ZM.s0,.string ZM.s1,.slice A1 ZM.l.length c1] 29)) 32 #[.int .i64 E,.int .i64 P]
  rw [World.size_alloc,hW3,hp] at h;exact h
 have hb3:Below p w1 W3:=by rw [<-hW3,<-hp];exact bw_a (bw_a (Below.refl _ w1) _) _
 rw [hW3]
 try rw [hp]
 have HKQ:=hid hkq
 have HKM:=hid (hk6.below hb3 (by omega))
 have HKF:=hid (hk7.below hb3 (by omega))
 have HB3:=hid (hb01.trans (hb3.mono (by omega)))
 clear hkq hb3 hk6 hk7 hb01 hb1 hW3 hp
 refine wp_region_invB (by kernel_rfl) (by kernel_rfl) (SrB3 s (p+1) E P) ?_ ?_ ?_
 ·exact ⟨undef,undef,(by first | (simp only [Act.put,gD,gE,gF];done) | rfl),by simp,by simp,(by simp;exact (HKM.out)),(by simp;exact (HKF.out)),⟨rfl,rfl,rfl,Nat.le_refl _,fun _ _ _=>rfl⟩⟩
 ·intro f a' wx i o ho hf hdep hI
  have hi:i < 4:=(Array.getElem?_eq_some_iff.1 ho).1
  have hcase:i=0\/i=1\/i=2\/i=3:=by omega
  clear hi
  rcases hcase with rfl | rfl | rfl | rfl
  all_goals
   simp only [gA,gB,gC,Option.some.injEq] at ho
   subst ho
  ·skip
   obtain ⟨x0,x1,rfl,h0,h1,k2,k3,hC⟩:=hI
   have H0':=hid h0;have H1':=hid h1;have K2':=hid k2;have K3':=hid k3;have HC':=hid hC;clear h0 h1 k2 k3 hC
   try simp only [Act.put,gD,gE,gF]
   go_wp2_with fail
   have h0:=H0'.out;have h1:=H1'.out;have k2:=K2'.out;have k3:=K3'.out;have hC:=HC'.out
   exact ⟨_,x1,(by first | (simp only [Act.put,gD,gE,gF];done) | rfl),(fun _=>rfl),(fun h=>h1 (by simpa using h)),(by simpa using k2),(by simpa using k3),hC⟩
  ·skip
   obtain ⟨x0,x1,rfl,h0,h1,k2,k3,hC⟩:=hI
   have hb:=hC.blk HKQ.out (by omega)
   have t0:=hb.cell 0;have t1:=hb.cell 1
   simp only [gA,gB,gC] at t0 t1
   clear hb
   have H0':=hid h0;have H1':=hid h1;have K2':=hid k2;have K3':=hid k3;have HC':=hid hC;clear h0 h1 k2 k3 hC
   try simp only [Act.put,gD,gE,gF]
   go_wp2_with fail
   have h0:=H0'.out;have h1:=H1'.out;have k2:=K2'.out;have k3:=K3'.out;have hC:=HC'.out
   exact ⟨x0,_,(by first | (simp only [Act.put,gD,gE,gF];done) | rfl),(fun h=>h0 (by simpa using h)),(fun _=>rfl),(by simpa using k2),(by simpa using k3),hC⟩
  ·skip
   obtain ⟨x0,x1,rfl,h0,h1,k2,k3,hC⟩:=hI
   simp [Region.binds] at hdep
   obtain rfl:=h0 (by first | exact hdep | exact hdep.1 | exact hdep.2 | exact hdep.2.1 | exact hdep.2.2 | exact hdep.2.2.1 | exact hdep.2.2.2 | simp_all)
   have hko:Blk wx (s) 29 #[.int .u8 0,.int .u64 0,.int .u64 0,.int .u64 0,.int .u64 0,.int .u64 0,.int .u64 0,.string ⟨#[]⟩,.string ⟨#[]⟩,.slice none 0 0]:=by have h:=k2;rw [hf] at h;simpa using h
   have y0:=hko.cell 0;have z0:=hko.frozen 0
   have y1:=hko.cell 1;have z1:=hko.frozen 1
   have y2:=hko.cell 2;have z2:=hko.frozen 2
   have y3:=hko.cell 3;have z3:=hko.frozen 3
   have y4:=hko.cell 4;have z4:=hko.frozen 4
   have y5:=hko.cell 5;have z5:=hko.frozen 5
   have y6:=hko.cell 6;have z6:=hko.frozen 6
   have y7:=hko.cell 7;have z7:=hko.frozen 7
   have y8:=hko.cell 8;have z8:=hko.frozen 8
   have y9:=hko.cell 9;have z9:=hko.frozen 9
   simp only [gA,gB,gC] at y0 y1 y2 y3 y4 y5 y6 y7 y8 y9
   have HKO:=hid hko;clear hko
   have H0':=hid h0;have H1':=hid h1;have K2':=hid k2;have K3':=hid k3;have HC':=hid hC;clear h0 h1 k2 k3 hC
   try simp only [Act.put,gD,gE,gF]
   go_wp2_with fail
   have h0:=H0'.out;have h1:=H1'.out;have k2:=K2'.out;have k3:=K3'.out;have hC:=HC'.out
   obtain ⟨hkn,hcn⟩:=mstore HKO.out _ _ _ _ _ _ _ _ _ _
   exact ⟨_,x1,(by first | (simp only [Act.put,gD,gE,gF];done) | rfl),(fun _=>rfl),(fun h=>h1 (by simpa using h)),(by simpa using hkn),(hcn.blk (by simpa using k3) (by omega)),(hC.trans (hcn.mono (fun q _ hq=>by subst hq;simp)))⟩
  ·skip
   obtain ⟨x0,x1,rfl,h0,h1,k2,k3,hC⟩:=hI
   simp [Region.binds] at hdep
   obtain rfl:=h1 (by first | exact hdep | exact hdep.1 | exact hdep.2 | exact hdep.2.1 | exact hdep.2.2 | exact hdep.2.2.1 | exact hdep.2.2.2 | simp_all)
   have hko:Blk wx (s+1) 32 #[.int .i64 0,.int .i64 0]:=by have h:=k3;rw [hf] at h;simpa using h
   have y0:=hko.cell 0;have z0:=hko.frozen 0
   have y1:=hko.cell 1;have z1:=hko.frozen 1
   simp only [gA,gB,gC] at y0 y1
   have HKO:=hid hko;clear hko
   have H0':=hid h0;have H1':=hid h1;have K2':=hid k2;have K3':=hid k3;have HC':=hid hC;clear h0 h1 k2 k3 hC
   try simp only [Act.put,gD,gE,gF]
   go_wp2_with fail
   have h0:=H0'.out;have h1:=H1'.out;have k2:=K2'.out;have k3:=K3'.out;have hC:=HC'.out
   obtain ⟨hkn,hcn⟩:=fstore HKO.out _ _
   exact ⟨x0,_,(by first | (simp only [Act.put,gD,gE,gF];done) | rfl),(fun h=>h0 (by simpa using h)),(fun _=>rfl),(hcn.blk (by simpa using k2) (by omega)),(by simpa using hkn),(hC.trans (hcn.mono (fun q _ hq=>by subst hq;simp)))⟩
 ·intro f a' wx hall hI
  obtain ⟨x0,x1,rfl,h0,h1,k2,k3,hC⟩:=hI
  obtain rfl:=h0 (hall 0 (by simp))
  obtain rfl:=h1 (hall 1 (by simp))
  have kf2:=k2;rw [hall 2 (by simp),if_pos rfl] at kf2
  have kf3:=k3;rw [hall 3 (by simp),if_pos rfl] at kf3
  clear h0 h1 k2 k3 hall f
  try simp only [Act.put,gD,gE,gF]
  go_wp2_with fail
  have x0:=kf2.cell 0
  have x1:=kf2.cell 1
  have x2:=kf2.cell 2
  have x3:=kf2.cell 3
  have x4:=kf2.cell 4
  have x5:=kf2.cell 5
  have x6:=kf2.cell 6
  have x7:=kf2.cell 7
  have x8:=kf2.cell 8
  have x9:=kf2.cell 9
  have y0:=kf3.cell 0
  have y1:=kf3.cell 1
  simp only [gA,gB,gC] at x0 x1 x2 x3 x4 x5 x6 x7 x8 x9 y0 y1
  have hbR:=HB3.out.trans (hC.below (B:=s) (fun x hx=>by omega) (by have:=HKM.out.lt;omega))
  refine bodyPost_ret (v:=.tuple #[.agg #[.int .u8 0,.int .u64 0,.int .u64 0,.int .u64 0,.int .u64 0,.int .u64 0,.int .u64 0,.string ⟨#[]⟩,.string ⟨#[]⟩,.slice none 0 0],.agg #[.int .i64 E,.int .i64 P]]) (by simp [results,Tryz.results7,go_sem,x0,x1,x2,x3,x4,x5,x6,x7,x8,x9,y0,y1]) rfl ?_
  exact HQ.out _ hbR
theorem rtd_good (k:Nat) (v:Int) (bs:List UInt8) (n:Nat) (A:Option Addr) (c:Nat) (w:World) (hk:k<=255) (hv1 : -9223372036854775808<=v) (hv2:v<=9223372036854775807) (hn:bs.length=n) (hs:Sl w A c (bs.map bv)) {M:MV} {O:List (RF × Nat)} (hr:readR k v bs=(M,O,0,0)) (hg:Good k v M) (hc:chkV M (ofL (k:Int) v)=(0,0)):Calls Tryz.prog 7 #[.int .u8 (k:Int),.int .i64 v,.slice A n c] w (TdcR w (if encB M (ofL (k:Int) v)=bs then (M,0,0) else (ZM,3,unl bs (encB M (ofL (k:Int) v))))):=by
 obtain ⟨s,hsz⟩:∃ s,w.heap.size=s:=⟨_,rfl⟩
 obtain ⟨W0,hW0⟩:∃ W0,((w.alloc (.cells #[.int .u8 0,.int .u64 0,.int .u64 0,.int .u64 0,.int .u64 0,.int .u64 0,.int .u64 0,.string ⟨#[]⟩,.string ⟨#[]⟩,.slice none 0 0] 29)).alloc (.cells #[.int .i64 0,.int .i64 0] 32))=W0:=⟨_,rfl⟩
 have hk6:Blk W0 s 29 #[.int .u8 0,.int .u64 0,.int .u64 0,.int .u64 0,.int .u64 0,.int .u64 0,.int .u64 0,.string ⟨#[]⟩,.string ⟨#[]⟩,.slice none 0 0]:=by rw [<-hW0,<-hsz];exact (Blk.new w _ _).alloc _
 have hk7:Blk W0 (s+1) 32 #[.int .i64 0,.int .i64 0]:=by
  have h:=Blk.new (w.alloc (.cells #[.int .u8 0,.int .u64 0,.int .u64 0,.int .u64 0,.int .u64 0,.int .u64 0,.int .u64 0,.string ⟨#[]⟩,.string ⟨#[]⟩,.slice none 0 0] 29)) 32 #[.int .i64 0,.int .i64 0]
  rw [World.size_alloc,hsz] at h;rw [<-hW0];exact h
 have hb0:Below s w W0:=by rw [<-hW0,<-hsz];exact bw_a (bw_a (Below.refl _ w) _) _
 have hsl:∀ W,Below s w W->Sl W A c (bs.map bv):=fun W hW=>hs.below (by rw [hsz];exact hW)
 have HSL:=hid hsl
 have hd:=fun W hW=>rdec_p (w:=W) hk hv1 hv2 hn (hsl W hW) hr
 have he:=fun W A' c'=>renc_good hk hv1 hv2 hg hc W A' c'
 obtain ⟨eb,heb⟩:∃ eb,encB M (ofL (k:Int) v)=eb:=⟨_,rfl⟩
 rw [heb] at he ⊢
 obtain ⟨el,hel⟩:∃ el,eb.length=el:=⟨_,rfl⟩
 rw [hel] at he
 have hsn:=hs.small
 have hcp:=hs.cap
 rw [List.length_map,hn] at hcp
 obtain ⟨Q,hQ⟩:∃ Q,Q=TdcR w (if eb=bs then (M,0,0) else (ZM,3,unl bs eb)):=⟨_,rfl⟩
 rw [<-hQ]
 have hq1:∀ (at_:Nat) w',eb ≠ bs->unl bs eb=at_->Below s w w'->Q (.returned (.tuple #[.agg #[.int .u8 0,.int .u64 0,.int .u64 0,.int .u64 0,.int .u64 0,.int .u64 0,.int .u64 0,.string ⟨#[]⟩,.string ⟨#[]⟩,.slice none 0 0],.agg #[.int .i64 3,.int .i64 (at_:Int)]])) w':=fun at_ w' h1 h2 h=>by rw [hQ,if_neg h1,h2];exact ⟨none,0,rfl,Ow.nil_ _ _ _,by rw [hsz];exact h⟩
 have hq2:∀ A' c' w',eb=bs->Ow w' s 9 M.l.length A' c' (M.l.map sv)->Below s w w'->Q (.returned (.tuple #[.agg #[.int .u8 (M.k:Int),.int .u64 (M.n0:Int),.int .u64 (M.n1:Int),.int .u64 (M.n2:Int),.int .u64 (M.n3:Int),.int .u64 (M.n4:Int),.int .u64 (M.n5:Int),.string M.s0,.string M.s1,.slice A' M.l.length c'],.agg #[.int .i64 0,.int .i64 0]])) w':=fun A' c' w' h1 h2 h=>by rw [hQ,if_pos h1];exact ⟨A',c',rfl,by rw [hsz];exact h2,by rw [hsz];exact h⟩
 have HQ1:=hid hq1
 have HQ2:=hid hq2
 have HD:=hid hd
 have HE:=hid he
 have HN:=hid hn
 have HEL:=hid hel
 have HW0:=hid hW0
 have HK6:=hid hk6
 have HK7:=hid hk7
 have HB0:=hid hb0
 clear hW0 hk6 hk7 hb0 hd he hq1 hq2 hQ hs hsl hr hn hel heb hg hc
 go_enter Tryz.func7,Tryz.ntmps7
 go_wp2_with fail
 rw [HW0.out]
 refine (HD.out _ HB0.out).mono ?_
 rintro e w1 ⟨A1,c1,rfl,ho1,hb1⟩
 have hk6:=HK6.out.below hb1 HK6.out.lt
 have hk7:=HK7.out.below hb1 HK7.out.lt
 have hb01:Below s w w1:=HB0.out.trans (hb1.mono (by have:=HB0.out.size;omega))
 have hzs:s<=W0.heap.size:=by have:=HB0.out.size;omega
 obtain ⟨p,hp⟩:∃ p,w1.heap.size=p:=⟨_,rfl⟩
 have hsp:s+2<=p:=by have:=hk7.lt;omega
 go_wp2_with fail
 obtain ⟨W3,hW3⟩:∃ W3,(w1.alloc (.cells #[.int .u8 (M.k:Int),.int .u64 (M.n0:Int),.int .u64 (M.n1:Int),.int .u64 (M.n2:Int),.int .u64 (M.n3:Int),.int .u64 (M.n4:Int),.int .u64 (M.n5:Int),.string M.s0,.string M.s1,.slice A1 M.l.length c1] 29)).alloc (.cells #[.int .i64 0,.int .i64 0] 32)=W3:=⟨_,rfl⟩
 have hkm:Blk W3 p 29 #[.int .u8 (M.k:Int),.int .u64 (M.n0:Int),.int .u64 (M.n1:Int),.int .u64 (M.n2:Int),.int .u64 (M.n3:Int),.int .u64 (M.n4:Int),.int .u64 (M.n5:Int),.string M.s0,.string M.s1,.slice A1 M.l.length c1]:=by rw [<-hW3,<-hp];exact (Blk.new w1 _ _).alloc _
 have hb3:Below p w1 W3:=by rw [<-hW3,<-hp];exact bw_a (bw_a (Below.refl _ w1) _) _
 rw [hW3]
 try rw [hp]
 have ho3:=ho1.below (hb3.mono (by omega):Below w1.heap.size w1 W3)
 have hs3:=ho3.sl
 refine (HE.out W3 A1 c1 hs3).mono ?_
 rintro e w5 ⟨A2,c2,rfl,hs5,hb5⟩
 have hz3:p+2<=W3.heap.size:=by rw [<-hW3];simp [hp]
 have hkM:=(hk6.below hb3 (by omega)).below hb5 (by omega)
 have hkF:=(hk7.below hb3 (by omega)).below hb5 (by omega)
 have hkm5:=hkm.below hb5 (by omega)
 have ho5:=(ho3.below hb5).mono hzs
 have hb05:Below s w w5:=(hb01.trans (hb3.mono (by omega))).trans (hb5.mono (by omega))
 have hA:=HSL.out w5 hb05
 have hB:=hs5
 have hcp2:=hB.cap
 have hsn2:=hB.small
 rw [List.length_map,HEL.out] at hcp2
 have HA:=hid hA
 have HB:=hid hB
 have HKM:=hid hkM
 have HKF:=hid hkF
 have HKP:=hid hkm5
 have HO5:=hid ho5
 have HB5:=hid hb05
 have HP5:=hid (show p+2<=w5.heap.size by have:=hb5.size;omega)
 clear hk6 hk7 hb01 hkm hb3 ho3 hs3 hs5 hb5 hkM hkF hkm5 ho5 hb05 hA hB hW3 hp ho1 hb1 hz3 HD HE HSL HK6 HK7 HW0 HB0 hzs
 go_wp2_with fail
 obtain ⟨Wa,hWa⟩:∃ Wa,w5.alloc (.cells #[.int .i64 0,.int .i64 0] 32)=Wa:=⟨_,rfl⟩
 have hba:Below w5.heap.size w5 Wa:=by rw [<-hWa];exact bw_a (Below.refl _ w5) _
 rw [hWa]
 have HBA:=hid hba
 clear hWa hba
 go_loopw [12] (fun i wr=>∃ j:Nat,j<=n/\j<=el/\i=.int .i64 (j:Int)/\Below w5.heap.size w5 wr/\bs.take j=eb.take j) (fun i _=>n - (intOf i).toNat)
 case atStart=>exact ⟨0,by omega,by omega,rfl,HBA.out,by simp⟩
 case round =>
  obtain ⟨j,hj,hj2,rfl,hbr,ht⟩:=hrel
  have HT:=hid ht
  have HBR:=hid hbr
  have hjn:=HN.out
  have hje:=HEL.out
  have hj0:(0:Int)<=(j:Int):=by omega
  clear ht hbr
  by_cases hlt:j < n
  ·have hki:(j:Int) < (n:Int):=by omega
   have hkb:decide ((j:Int) < (n:Int))=true:=by simpa using hki
   by_cases hlt2:j < el
   ·have g1:j < bs.length:=by omega
    have g2:j < eb.length:=by omega
    have hkj:(j:Int) < (el:Int):=by omega
    have hkc:decide ((j:Int) < (el:Int))=true:=by simpa using hkj
    clear hjn hje
    have hAr:BRd wr A bs:=(HA.out.below HBR.out).rd
    have hBr:BRd wr A2 eb:=(HB.out.below HBR.out).rd
    obtain ⟨b1,o1,hA1,hb1,hc1⟩:=hAr.at_ g1
    subst hA1
    obtain ⟨b2,o2,hA2,hb2,hc2⟩:=hBr.at_ g2
    subst hA2
    by_cases hxy:bs[j]=eb[j]
    ·have htk:bs.take (j+1)=eb.take (j+1):=by rw [List.take_succ_eq_append_getElem g1,List.take_succ_eq_append_getElem g2,HT.out,hxy]
     have HTK:=hid htk
     rw [hxy] at hc1
     generalize hy:(eb[j].toNat:Int)=y at hc1 hc2
     clear hy hxy htk hAr hBr g1 g2
     go_wp2_with fail
     go_quiet (fail)
     go_wp2_with fail
     go_roundw
     case rel=>exact ⟨j+1,by omega,by omega,by go_num,below_drewN HBR.out _,HTK.out⟩
     case measure=>simp [intOf];omega
    ·have hne:((bs[j].toNat:Int) == (eb[j].toNat:Int))=false:=by
      simp only [beq_eq_false_iff_ne,ne_eq];intro h;exact hxy (UInt8.toNat_inj.1 (by omega))
     have hun:=unl_eq j bs eb (by omega) (by omega) HT.out (.inr (.inr ⟨bs[j],eb[j],List.getElem?_eq_getElem g1,List.getElem?_eq_getElem g2,hxy⟩))
     have hnb:eb ≠ bs:=fun h=>by subst h;exact hxy rfl
     have HUN:=hid hun
     have HNB:=hid hnb
     clear hxy hun hnb hAr hBr
     generalize (bs[j].toNat:Int)=x at *
     generalize (eb[j].toNat:Int)=y at *
     clear g1 g2
     go_wp2_with fail
     go_quiet (fail)
     generalize hWq:World.drewN wr _=Wq
     have hbq:Below w5.heap.size w5 Wq:=by rw [<-hWq];exact below_drewN HBR.out _
     have HKM2:=hid (HKM.out.below hbq HKM.out.lt)
     have HKF2:=hid (HKF.out.below hbq HKF.out.lt)
     have HBQ:=hid hbq
     clear hWq hbq
     have cq0:=HKM2.out.cell 0
     have cq1:=HKM2.out.cell 1
     have cq2:=HKM2.out.cell 2
     have cq3:=HKM2.out.cell 3
     have cq4:=HKM2.out.cell 4
     have cq5:=HKM2.out.cell 5
     have cq6:=HKM2.out.cell 6
     have cq7:=HKM2.out.cell 7
     have cq8:=HKM2.out.cell 8
     have cq9:=HKM2.out.cell 9
     have dq0:=HKF2.out.cell 0
     have dq1:=HKF2.out.cell 1
     simp only [gA,gB,gC] at cq0 cq1 cq2 cq3 cq4 cq5 cq6 cq7 cq8 cq9 dq0 dq1
     have fq0:=HKM2.out.frozen 0
     have fq1:=HKM2.out.frozen 1
     have fq2:=HKM2.out.frozen 2
     have fq3:=HKM2.out.frozen 3
     have fq4:=HKM2.out.frozen 4
     have fq5:=HKM2.out.frozen 5
     have fq6:=HKM2.out.frozen 6
     have fq7:=HKM2.out.frozen 7
     have fq8:=HKM2.out.frozen 8
     have fq9:=HKM2.out.frozen 9
     have gq0:=HKF2.out.frozen 0
     have gq1:=HKF2.out.frozen 1
     go_wp2_with fail
     obtain ⟨r6,r7,rc⟩:=rstD2 HKM2.out HKF2.out (.int .u8 0) (.int .u64 0) (.int .u64 0) (.int .u64 0) (.int .u64 0) (.int .u64 0) (.int .u64 0) (.string ⟨#[]⟩) (.string ⟨#[]⟩) (.slice none 0 0) (.int .i64 3) (.int .i64 (j:Int))
     clear cq0 cq1 cq2 cq3 cq4 cq5 cq6 cq7 cq8 cq9 dq0 dq1 fq0 fq1 fq2 fq3 fq4 fq5 fq6 fq7 fq8 fq9 gq0 gq1
     have hW9:∃ W9,rWD2 Wq s (.int .u8 0) (.int .u64 0) (.int .u64 0) (.int .u64 0) (.int .u64 0) (.int .u64 0) (.int .u64 0) (.string ⟨#[]⟩) (.string ⟨#[]⟩) (.slice none 0 0) (.int .i64 3) (.int .i64 (j:Int))=W9:=⟨_,rfl⟩
     obtain ⟨W9,hW9⟩:=hW9
     rw [hW9] at r6 r7 rc
     unfold rWD2 at hW9
     rw [hW9]
     clear hW9
     have x0:=r6.cell 0
     have x1:=r6.cell 1
     have x2:=r6.cell 2
     have x3:=r6.cell 3
     have x4:=r6.cell 4
     have x5:=r6.cell 5
     have x6:=r6.cell 6
     have x7:=r6.cell 7
     have x8:=r6.cell 8
     have x9:=r6.cell 9
     have y0:=r7.cell 0
     have y1:=r7.cell 1
     simp only [gA,gB,gC] at x0 x1 x2 x3 x4 x5 x6 x7 x8 x9 y0 y1
     refine bodyPost_ret (v:=.tuple #[.agg #[.int .u8 0,.int .u64 0,.int .u64 0,.int .u64 0,.int .u64 0,.int .u64 0,.int .u64 0,.string ⟨#[]⟩,.string ⟨#[]⟩,.slice none 0 0],.agg #[.int .i64 3,.int .i64 (j:Int)]]) (by simp [results,Tryz.results7,go_sem,x0,x1,x2,x3,x4,x5,x6,x7,x8,x9,y0,y1]) rfl ?_
     exact HQ1.out j _ HNB.out HUN.out ((HB5.out.trans (HBQ.out.mono (by have:=HP5.out;omega))).trans (rc.below (B:=s) (fun q hq=>by omega) (by have:=HP5.out;have:=HBQ.out.size;omega)))
   ·obtain rfl:j=el:=by omega
    have hkj:¬ (j:Int) < (j:Int):=by omega
    have hkc:decide ((j:Int) < (j:Int))=false:=by simp
    have hun:=unl_eq j bs eb (by omega) (by omega) HT.out (.inr (.inl (by omega)))
    have hnb:eb ≠ bs:=fun h=>by subst h;omega
    have HUN:=hid hun
    have HNB:=hid hnb
    clear hun hnb hjn hje
    go_wp2_with fail
    go_quiet (fail)
    generalize hWq:World.drewN wr _=Wq
    have hbq:Below w5.heap.size w5 Wq:=by rw [<-hWq];exact below_drewN HBR.out _
    have HKM2:=hid (HKM.out.below hbq HKM.out.lt)
    have HKF2:=hid (HKF.out.below hbq HKF.out.lt)
    have HBQ:=hid hbq
    clear hWq hbq
    have cq0:=HKM2.out.cell 0
    have cq1:=HKM2.out.cell 1
    have cq2:=HKM2.out.cell 2
    have cq3:=HKM2.out.cell 3
    have cq4:=HKM2.out.cell 4
    have cq5:=HKM2.out.cell 5
    have cq6:=HKM2.out.cell 6
    have cq7:=HKM2.out.cell 7
    have cq8:=HKM2.out.cell 8
    have cq9:=HKM2.out.cell 9
    have dq0:=HKF2.out.cell 0
    have dq1:=HKF2.out.cell 1
    simp only [gA,gB,gC] at cq0 cq1 cq2 cq3 cq4 cq5 cq6 cq7 cq8 cq9 dq0 dq1
    have fq0:=HKM2.out.frozen 0
    have fq1:=HKM2.out.frozen 1
    have fq2:=HKM2.out.frozen 2
    have fq3:=HKM2.out.frozen 3
    have fq4:=HKM2.out.frozen 4
    have fq5:=HKM2.out.frozen 5
    have fq6:=HKM2.out.frozen 6
    have fq7:=HKM2.out.frozen 7
    have fq8:=HKM2.out.frozen 8
    have fq9:=HKM2.out.frozen 9
    have gq0:=HKF2.out.frozen 0
    have gq1:=HKF2.out.frozen 1
    go_wp2_with fail
    obtain ⟨r6,r7,rc⟩:=rstD2 HKM2.out HKF2.out (.int .u8 0) (.int .u64 0) (.int .u64 0) (.int .u64 0) (.int .u64 0) (.int .u64 0) (.int .u64 0) (.string ⟨#[]⟩) (.string ⟨#[]⟩) (.slice none 0 0) (.int .i64 3) (.int .i64 (j:Int))
    clear cq0 cq1 cq2 cq3 cq4 cq5 cq6 cq7 cq8 cq9 dq0 dq1 fq0 fq1 fq2 fq3 fq4 fq5 fq6 fq7 fq8 fq9 gq0 gq1
    have hW9:∃ W9,rWD2 Wq s (.int .u8 0) (.int .u64 0) (.int .u64 0) (.int .u64 0) (.int .u64 0) (.int .u64 0) (.int .u64 0) (.string ⟨#[]⟩) (.string ⟨#[]⟩) (.slice none 0 0) (.int .i64 3) (.int .i64 (j:Int))=W9:=⟨_,rfl⟩
    obtain ⟨W9,hW9⟩:=hW9
    rw [hW9] at r6 r7 rc
    unfold rWD2 at hW9
    rw [hW9]
    clear hW9
    have x0:=r6.cell 0
    have x1:=r6.cell 1
    have x2:=r6.cell 2
    have x3:=r6.cell 3
    have x4:=r6.cell 4
    have x5:=r6.cell 5
    have x6:=r6.cell 6
    have x7:=r6.cell 7
    have x8:=r6.cell 8
    have x9:=r6.cell 9
    have y0:=r7.cell 0
    have y1:=r7.cell 1
    simp only [gA,gB,gC] at x0 x1 x2 x3 x4 x5 x6 x7 x8 x9 y0 y1
    refine bodyPost_ret (v:=.tuple #[.agg #[.int .u8 0,.int .u64 0,.int .u64 0,.int .u64 0,.int .u64 0,.int .u64 0,.int .u64 0,.string ⟨#[]⟩,.string ⟨#[]⟩,.slice none 0 0],.agg #[.int .i64 3,.int .i64 (j:Int)]]) (by simp [results,Tryz.results7,go_sem,x0,x1,x2,x3,x4,x5,x6,x7,x8,x9,y0,y1]) rfl ?_
    exact HQ1.out j _ HNB.out HUN.out ((HB5.out.trans (HBQ.out.mono (by have:=HP5.out;omega))).trans (rc.below (B:=s) (fun q hq=>by omega) (by have:=HP5.out;have:=HBQ.out.size;omega)))
  ·obtain rfl:j=n:=by omega
   have hki:¬ (j:Int) < (j:Int):=by omega
   have hkb:decide ((j:Int) < (j:Int))=false:=by simp
   by_cases hlt2:j < el
   ·have hkj:(j:Int) < (el:Int):=by omega
    have hkc:decide ((j:Int) < (el:Int))=true:=by simpa using hkj
    have hun:=unl_eq j bs eb (by omega) (by omega) HT.out (.inl (by omega))
    have hnb:eb ≠ bs:=fun h=>by subst h;omega
    have HUN:=hid hun
    have HNB:=hid hnb
    clear hun hnb hjn hje
    go_wp2_with fail
    go_quiet (fail)
    generalize hWq:World.drewN wr _=Wq
    have hbq:Below w5.heap.size w5 Wq:=by rw [<-hWq];exact below_drewN HBR.out _
    have HKM2:=hid (HKM.out.below hbq HKM.out.lt)
    have HKF2:=hid (HKF.out.below hbq HKF.out.lt)
    have HBQ:=hid hbq
    clear hWq hbq
    have cq0:=HKM2.out.cell 0
    have cq1:=HKM2.out.cell 1
    have cq2:=HKM2.out.cell 2
    have cq3:=HKM2.out.cell 3
    have cq4:=HKM2.out.cell 4
    have cq5:=HKM2.out.cell 5
    have cq6:=HKM2.out.cell 6
    have cq7:=HKM2.out.cell 7
    have cq8:=HKM2.out.cell 8
    have cq9:=HKM2.out.cell 9
    have dq0:=HKF2.out.cell 0
    have dq1:=HKF2.out.cell 1
    simp only [gA,gB,gC] at cq0 cq1 cq2 cq3 cq4 cq5 cq6 cq7 cq8 cq9 dq0 dq1
    have fq0:=HKM2.out.frozen 0
    have fq1:=HKM2.out.frozen 1
    have fq2:=HKM2.out.frozen 2
    have fq3:=HKM2.out.frozen 3
    have fq4:=HKM2.out.frozen 4
    have fq5:=HKM2.out.frozen 5
    have fq6:=HKM2.out.frozen 6
    have fq7:=HKM2.out.frozen 7
    have fq8:=HKM2.out.frozen 8
    have fq9:=HKM2.out.frozen 9
    have gq0:=HKF2.out.frozen 0
    have gq1:=HKF2.out.frozen 1
    go_wp2_with fail
    obtain ⟨r6,r7,rc⟩:=rstD2 HKM2.out HKF2.out (.int .u8 0) (.int .u64 0) (.int .u64 0) (.int .u64 0) (.int .u64 0) (.int .u64 0) (.int .u64 0) (.string ⟨#[]⟩) (.string ⟨#[]⟩) (.slice none 0 0) (.int .i64 3) (.int .i64 (j:Int))
    clear cq0 cq1 cq2 cq3 cq4 cq5 cq6 cq7 cq8 cq9 dq0 dq1 fq0 fq1 fq2 fq3 fq4 fq5 fq6 fq7 fq8 fq9 gq0 gq1
    have hW9:∃ W9,rWD2 Wq s (.int .u8 0) (.int .u64 0) (.int .u64 0) (.int .u64 0) (.int .u64 0) (.int .u64 0) (.int .u64 0) (.string ⟨#[]⟩) (.string ⟨#[]⟩) (.slice none 0 0) (.int .i64 3) (.int .i64 (j:Int))=W9:=⟨_,rfl⟩
    obtain ⟨W9,hW9⟩:=hW9
    rw [hW9] at r6 r7 rc
    unfold rWD2 at hW9
    rw [hW9]
    clear hW9
    have x0:=r6.cell 0
    have x1:=r6.cell 1
    have x2:=r6.cell 2
    have x3:=r6.cell 3
    have x4:=r6.cell 4
    have x5:=r6.cell 5
    have x6:=r6.cell 6
    have x7:=r6.cell 7
    have x8:=r6.cell 8
    have x9:=r6.cell 9
    have y0:=r7.cell 0
    have y1:=r7.cell 1
    simp only [gA,gB,gC] at x0 x1 x2 x3 x4 x5 x6 x7 x8 x9 y0 y1
    refine bodyPost_ret (v:=.tuple #[.agg #[.int .u8 0,.int .u64 0,.int .u64 0,.int .u64 0,.int .u64 0,.int .u64 0,.int .u64 0,.string ⟨#[]⟩,.string ⟨#[]⟩,.slice none 0 0],.agg #[.int .i64 3,.int .i64 (j:Int)]]) (by simp [results,Tryz.results7,go_sem,x0,x1,x2,x3,x4,x5,x6,x7,x8,x9,y0,y1]) rfl ?_
    exact HQ1.out j _ HNB.out HUN.out ((HB5.out.trans (HBQ.out.mono (by have:=HP5.out;omega))).trans (rc.below (B:=s) (fun q hq=>by omega) (by have:=HP5.out;have:=HBQ.out.size;omega)))
   ·obtain rfl:j=el:=by omega
    have hall:eb=bs:=by
     have h:=HT.out
     rw [List.take_of_length_le (by omega),List.take_of_length_le (by omega)] at h
     exact h.symm
    have HALL:=hid hall
    clear hall hjn hje
    go_wp2_with fail
    go_quiet (fail)
    generalize hWq:World.drewN wr _=Wq
    have hbq:Below w5.heap.size w5 Wq:=by rw [<-hWq];exact below_drewN HBR.out _
    have HKM2:=hid (HKM.out.below hbq HKM.out.lt)
    have HKF2:=hid (HKF.out.below hbq HKF.out.lt)
    have HBQ:=hid hbq
    clear hWq hbq
    have HKP2:=hid (HKP.out.below HBQ.out HKP.out.lt)
    have HO6:=hid (HO5.out.below HBQ.out)
    have m0:=HKP2.out.cell 0
    have m1:=HKP2.out.cell 1
    have m2:=HKP2.out.cell 2
    have m3:=HKP2.out.cell 3
    have m4:=HKP2.out.cell 4
    have m5:=HKP2.out.cell 5
    have m6:=HKP2.out.cell 6
    have m7:=HKP2.out.cell 7
    have m8:=HKP2.out.cell 8
    have m9:=HKP2.out.cell 9
    simp only [gA,gB,gC] at m0 m1 m2 m3 m4 m5 m6 m7 m8 m9
    have cq0:=HKM2.out.cell 0
    have cq1:=HKM2.out.cell 1
    have cq2:=HKM2.out.cell 2
    have cq3:=HKM2.out.cell 3
    have cq4:=HKM2.out.cell 4
    have cq5:=HKM2.out.cell 5
    have cq6:=HKM2.out.cell 6
    have cq7:=HKM2.out.cell 7
    have cq8:=HKM2.out.cell 8
    have cq9:=HKM2.out.cell 9
    have dq0:=HKF2.out.cell 0
    have dq1:=HKF2.out.cell 1
    simp only [gA,gB,gC] at cq0 cq1 cq2 cq3 cq4 cq5 cq6 cq7 cq8 cq9 dq0 dq1
    have fq0:=HKM2.out.frozen 0
    have fq1:=HKM2.out.frozen 1
    have fq2:=HKM2.out.frozen 2
    have fq3:=HKM2.out.frozen 3
    have fq4:=HKM2.out.frozen 4
    have fq5:=HKM2.out.frozen 5
    have fq6:=HKM2.out.frozen 6
    have fq7:=HKM2.out.frozen 7
    have fq8:=HKM2.out.frozen 8
    have fq9:=HKM2.out.frozen 9
    have gq0:=HKF2.out.frozen 0
    have gq1:=HKF2.out.frozen 1
    go_wp2_with fail
    obtain ⟨r6,r7,rc⟩:=rstD2 HKM2.out HKF2.out (.int .u8 (M.k:Int)) (.int .u64 (M.n0:Int)) (.int .u64 (M.n1:Int)) (.int .u64 (M.n2:Int)) (.int .u64 (M.n3:Int)) (.int .u64 (M.n4:Int)) (.int .u64 (M.n5:Int)) (.string M.s0) (.string M.s1) (.slice A1 M.l.length c1) (.int .i64 0) (.int .i64 0)
    clear cq0 cq1 cq2 cq3 cq4 cq5 cq6 cq7 cq8 cq9 dq0 dq1 fq0 fq1 fq2 fq3 fq4 fq5 fq6 fq7 fq8 fq9 gq0 gq1
    have hW9:∃ W9,rWD2 Wq s (.int .u8 (M.k:Int)) (.int .u64 (M.n0:Int)) (.int .u64 (M.n1:Int)) (.int .u64 (M.n2:Int)) (.int .u64 (M.n3:Int)) (.int .u64 (M.n4:Int)) (.int .u64 (M.n5:Int)) (.string M.s0) (.string M.s1) (.slice A1 M.l.length c1) (.int .i64 0) (.int .i64 0)=W9:=⟨_,rfl⟩
    obtain ⟨W9,hW9⟩:=hW9
    rw [hW9] at r6 r7 rc
    unfold rWD2 at hW9
    rw [hW9]
    clear hW9
    have x0:=r6.cell 0
    have x1:=r6.cell 1
    have x2:=r6.cell 2
    have x3:=r6.cell 3
    have x4:=r6.cell 4
    have x5:=r6.cell 5
    have x6:=r6.cell 6
    have x7:=r6.cell 7
    have x8:=r6.cell 8
    have x9:=r6.cell 9
    have y0:=r7.cell 0
    have y1:=r7.cell 1
    simp only [gA,gB,gC] at x0 x1 x2 x3 x4 x5 x6 x7 x8 x9 y0 y1
    refine bodyPost_ret (v:=.tuple #[.agg #[.int .u8 (M.k:Int),.int .u64 (M.n0:Int),.int .u64 (M.n1:Int),.int .u64 (M.n2:Int),.int .u64 (M.n3:Int),.int .u64 (M.n4:Int),.int .u64 (M.n5:Int),.string M.s0,.string M.s1,.slice A1 M.l.length c1],.agg #[.int .i64 0,.int .i64 0]]) (by simp [results,Tryz.results7,go_sem,x0,x1,x2,x3,x4,x5,x6,x7,x8,x9,y0,y1]) rfl ?_
    exact HQ2.out A1 c1 _ HALL.out ⟨own_chgS HO6.out.own rc (fun gg hgg hx=>hx.elim (fun hx=>own_ne_blk HO6.out.own HKM2.out (by decide) gg hgg hx) (fun hx=>own_ne_blk HO6.out.own HKF2.out (by decide) gg hgg hx))⟩ ((HB5.out.trans (HBQ.out.mono (by have:=HP5.out;omega))).trans (rc.below (B:=s) (fun q hq=>by omega) (by have:=HP5.out;have:=HBQ.out.size;omega)))
theorem rtd_any (k:Nat) (v:Int) (bs:List UInt8) (n:Nat) (A:Option Addr) (c:Nat) (w:World) (hk:k<=255) (hv1 : -9223372036854775808<=v) (hv2:v<=9223372036854775807) (hn:bs.length=n) (hs:Sl w A c (bs.map bv)):Calls Tryz.prog 7 #[.int .u8 (k:Int),.int .i64 v,.slice A n c] w (TdcR w (strD k v bs)):=by
 rcases str_ways k v bs with ⟨E,P,hE,hr,-,h⟩ | ⟨M,O,hr,hg,-,hc,-,h⟩
 ·rw [h];exact rtd_bad k v bs n A c w hk hv1 hv2 hn hs hE hr
 ·rw [h];exact rtd_good k v bs n A c w hk hv1 hv2 hn hs hr hg hc
end Go.Proofs.YtpmfdlghckfgiaaGreat
