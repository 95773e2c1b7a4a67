/- The document's Set of texts. -/
import Derived.Test.YtpmfdlghckfgiaaGreatG24
import Derived.Test.YtpmfdlghckfgiaaGreatG0
import Derived.Test.YtpmfdlghckfgiaaGreatG20
set_option linter.unusedVariables false
set_option maxRecDepth 100000
set_option maxHeartbeats 16000000
namespace Go.Proofs.YtpmfdlghckfgiaaGreat
open Go.RowKit
def RsR17 (s:Nat) (t:Int) (q:ByteArray) (fA:Option Addr) (xl fc:Nat) (mo E:Int) (a0:Act) (w0:World) (f:Nat->Bool) (a:Act) (w:World):Prop:=∃ x0 x1 x2 x3 x4 x5 x6 x7:Value,a=((((((((a0.put (some 120) x0).put (some 121) x1).put (some 122) x2).put (some 123) x3).put (some 124) x4).put (some 125) x5).put (some 126) x6).put (some 10) x7)/\(f 0=true->x0=.pointer (some ⟨s+1+1,3,none⟩))/\(f 1=true->x1=.slice fA xl fc)/\(f 2=true->x2=.string q)/\(f 3=true->x3=.pointer (some ⟨s+1,1,none⟩))/\(f 4=true->x4=.int .i64 t)/\(f 5=true->x5=.int .i64 mo)/\(f 6=true->x6=.int .i64 E)/\(f 7=true->x7=.int .i64 E)/\Chg (fun q=>False) w0 w
theorem rset_text0 (m:MV) (num t i:Int) (fnum fw:Int) (fn:Nat) (fA:Option Addr) (xl fc:Nat) (fat:Int) (xs:List UInt8) (w:World) (ht:t=7\/t=8\/t=9) (hi:i=0\/i=1) (hxl:xs.length=xl) (hx:xl<=9223372036854775807) (hsf:Sl w fA fc (xs.map bv)) (hE:chk ⟨xs.toArray⟩ (mostN t:Nat)=0) :
  Calls Tryz.prog 24 #[mvV m,.agg #[.int .i64 num,.int .i64 t,.int .i64 i],.agg #[.int .i64 fnum,.int .u8 fw,.int .u64 (fn:Int),.slice fA xl fc,.int .i64 fat]] w fun e w'=>e=.returned (.tuple #[mvV (m.setS i ⟨xs.toArray⟩),.int .i64 (0)])/\Below w.heap.size w w':=by
 have hq:(⟨xs.toArray⟩:ByteArray).size<=9223372036854775807:=by show xs.toArray.size<=_;simp;omega
 have hmo:=fun W=>rmost_any t W
 have hch:=fun W=>rchk_any ⟨xs.toArray⟩ (mostN t:Nat) W hq (by omega) (by rcases ht with rfl | rfl | rfl <;> decide)
 obtain ⟨U,hU⟩:∃ U,mvV (m.setS i ⟨xs.toArray⟩)=U:=⟨_,rfl⟩
 rw [hU]
 have hmc:(((mostN t:Nat):Int))=(((mostN t:Nat):Int)):=rfl
 generalize chk ⟨xs.toArray⟩ (mostN t:Nat)=E at *
 generalize ((mostN t:Nat):Int)=mo at *
 clear hmc
 obtain ⟨len,hlen⟩:∃ n,m.l.length=n:=⟨_,rfl⟩
 unfold mvV mvA at hU ⊢
 unfold MV.setS at hU
 simp only [hlen] at hU ⊢
 obtain ⟨mk,n0,n1,n2,n3,n4,n5,s0,s1,mA,mc,ml⟩:=m
 simp only at hU hlen ⊢
 clear hlen
 obtain ⟨q,hqe⟩:∃ q:ByteArray,(⟨xs.toArray⟩:ByteArray)=q:=⟨_,rfl⟩
 have hcv:∀ W,Below w.heap.size w W->(convert 22 9 (.slice fA xl fc)).run Tryz.prog W=.ok (.string q) W:=fun W hW=>by
  rw [<-hqe];exact conv_bs11 (hsf.below hW) hxl Tryz.underlying22 Tryz.underlying5 Tryz.underlying9
 rw [hqe] at hch hU
 obtain ⟨s,hws⟩:∃ s,w.heap.size=s:=⟨_,rfl⟩
 obtain ⟨hk0,hk1,hk2,hk3,hb4⟩:=bx4 hws #[.int .u8 (mk:Int),.int .u64 (n0:Int),.int .u64 (n1:Int),.int .u64 (n2:Int),.int .u64 (n3:Int),.int .u64 (n4:Int),.int .u64 (n5:Int),.string s0,.string s1,.slice mA len mc] #[.int .i64 num,.int .i64 t,.int .i64 i] #[.int .i64 fnum,.int .u8 fw,.int .u64 (fn:Int),.slice fA xl fc,.int .i64 fat] #[.int .u8 0,.int .u64 0,.int .u64 0,.int .u64 0,.int .u64 0,.int .u64 0,.int .u64 0,.string ⟨#[]⟩,.string ⟨#[]⟩,.slice none 0 0] 29 57 61 29
 rw [hws] at hcv ⊢
 have HMO:=hid hmo
 have HCH:=hid hch
 have HU:=hid hU
 have HCV:=hid hcv
 have HK0:=hid hk0
 have HK1:=hid hk1
 have HK2:=hid hk2
 have HK3:=hid hk3
 have HB4:=hid hb4
 subst hE
 clear hmo hch hU hcv hsf hxl hqe hq hk0 hk1 hk2 hk3 hb4
 have h1:1<=t:=by omega
 have h6:¬ t<=6:=by omega
 have h7:7<=t:=by omega
 have h9:t<=9:=by omega
 have ht1:(t == 1)=false:=by simp;omega
 have ht4:(t == 4)=false:=by simp;omega
 have ht3:(t == 3)=false:=by simp;omega
 clear ht
 rcases hi with rfl | rfl
 ·go_enter Tryz.func24,Tryz.ntmps24
  go_wp2_with fail
  generalize ((((w.alloc (.cells #[.int .u8 (mk:Int),.int .u64 (n0:Int),.int .u64 (n1:Int),.int .u64 (n2:Int),.int .u64 (n3:Int),.int .u64 (n4:Int),.int .u64 (n5:Int),.string s0,.string s1,.slice mA len mc] 29)).alloc (.cells #[.int .i64 num,.int .i64 t,.int .i64 0] 57)).alloc (.cells #[.int .i64 fnum,.int .u8 fw,.int .u64 (fn:Int),.slice fA xl fc,.int .i64 fat] 61)).alloc (.cells #[.int .u8 0,.int .u64 0,.int .u64 0,.int .u64 0,.int .u64 0,.int .u64 0,.int .u64 0,.string ⟨#[]⟩,.string ⟨#[]⟩,.slice none 0 0] 29))=W4 at *
  refine wp_region_invB (by kernel_rfl) (by kernel_rfl) (RsR17 s t q fA xl fc mo 0) ?_ ?_ ?_
  ·exact ⟨undef,undef,undef,undef,undef,undef,undef,undef,(by first | (simp only [Act.put,gD,gE,gF];done) | rfl),by simp,by simp,by simp,by simp,by simp,by simp,by simp,by simp,⟨rfl,rfl,rfl,Nat.le_refl _,fun _ _ _=>rfl⟩⟩
  ·intro f a' wx i o ho hf hdep hI
   have hi:i < 8:=(Array.getElem?_eq_some_iff.1 ho).1
   have hcase:i=0\/i=1\/i=2\/i=3\/i=4\/i=5\/i=6\/i=7:=by omega
   clear hi
   rcases hcase with rfl | rfl | rfl | rfl | rfl | rfl | rfl | rfl
   all_goals
    simp only [gA,gB,gC,Option.some.injEq] at ho
    subst ho
   ·skip
    obtain ⟨x0,x1,x2,x3,x4,x5,x6,x7,rfl,h0,h1,h2,h3,h4,h5,h6,h7,hC⟩:=hI
    have H0':=hid h0;have H1':=hid h1;have H2':=hid h2;have H3':=hid h3;have H4':=hid h4;have H5':=hid h5;have H6':=hid h6;have H7':=hid h7;have HC':=hid hC;clear h0 h1 h2 h3 h4 h5 h6 h7 hC
    try simp only [Act.put,gD,gE,gF]
    go_wp2_with fail
    have h0:=H0'.out;have h1:=H1'.out;have h2:=H2'.out;have h3:=H3'.out;have h4:=H4'.out;have h5:=H5'.out;have h6:=H6'.out;have h7:=H7'.out;have hC:=HC'.out
    exact ⟨_,x1,x2,x3,x4,x5,x6,x7,(by first | (simp only [Act.put,gD,gE,gF];done) | rfl),(fun _=>rfl),(fun h=>h1 (by simpa using h)),(fun h=>h2 (by simpa using h)),(fun h=>h3 (by simpa using h)),(fun h=>h4 (by simpa using h)),(fun h=>h5 (by simpa using h)),(fun h=>h6 (by simpa using h)),(fun h=>h7 (by simpa using h)),hC⟩
   ·skip
    obtain ⟨x0,x1,x2,x3,x4,x5,x6,x7,rfl,h0,h1,h2,h3,h4,h5,h6,h7,hC⟩:=hI
    simp [Region.binds] at hdep
    obtain rfl:=h0 (by first | exact hdep | exact hdep.1 | exact hdep.2 | exact hdep.2.1 | exact hdep.2.2 | exact hdep.2.2.1 | exact hdep.2.2.2 | simp_all)
    have t0:=(hC.blk HK2.out (fun h=>h)).cell 3
    simp only [gA,gB,gC] at t0
    have H0':=hid h0;have H1':=hid h1;have H2':=hid h2;have H3':=hid h3;have H4':=hid h4;have H5':=hid h5;have H6':=hid h6;have H7':=hid h7;have HC':=hid hC;clear h0 h1 h2 h3 h4 h5 h6 h7 hC
    try simp only [Act.put,gD,gE,gF]
    go_wp2_with fail
    have h0:=H0'.out;have h1:=H1'.out;have h2:=H2'.out;have h3:=H3'.out;have h4:=H4'.out;have h5:=H5'.out;have h6:=H6'.out;have h7:=H7'.out;have hC:=HC'.out
    exact ⟨_,_,x2,x3,x4,x5,x6,x7,(by first | (simp only [Act.put,gD,gE,gF];done) | rfl),(fun _=>rfl),(fun _=>rfl),(fun h=>h2 (by simpa using h)),(fun h=>h3 (by simpa using h)),(fun h=>h4 (by simpa using h)),(fun h=>h5 (by simpa using h)),(fun h=>h6 (by simpa using h)),(fun h=>h7 (by simpa using h)),hC⟩
   ·skip
    obtain ⟨x0,x1,x2,x3,x4,x5,x6,x7,rfl,h0,h1,h2,h3,h4,h5,h6,h7,hC⟩:=hI
    simp [Region.binds] at hdep
    obtain rfl:=h1 (by first | exact hdep | exact hdep.1 | exact hdep.2 | exact hdep.2.1 | exact hdep.2.2 | exact hdep.2.2.1 | exact hdep.2.2.2 | simp_all)
    have hcx:=HCV.out wx (HB4.out.trans (hC.below (B:=s) (fun _ h=>h.elim) (by have:=HK0.out.lt;omega)))
    have H0':=hid h0;have H1':=hid h1;have H2':=hid h2;have H3':=hid h3;have H4':=hid h4;have H5':=hid h5;have H6':=hid h6;have H7':=hid h7;have HC':=hid hC;clear h0 h1 h2 h3 h4 h5 h6 h7 hC
    try simp only [Act.put,gD,gE,gF]
    go_wp2_with fail
    have h0:=H0'.out;have h1:=H1'.out;have h2:=H2'.out;have h3:=H3'.out;have h4:=H4'.out;have h5:=H5'.out;have h6:=H6'.out;have h7:=H7'.out;have hC:=HC'.out
    exact ⟨x0,_,_,x3,x4,x5,x6,x7,(by first | (simp only [Act.put,gD,gE,gF];done) | rfl),(fun h=>h0 (by simpa using h)),(fun _=>rfl),(fun _=>rfl),(fun h=>h3 (by simpa using h)),(fun h=>h4 (by simpa using h)),(fun h=>h5 (by simpa using h)),(fun h=>h6 (by simpa using h)),(fun h=>h7 (by simpa using h)),hC⟩
   ·skip
    obtain ⟨x0,x1,x2,x3,x4,x5,x6,x7,rfl,h0,h1,h2,h3,h4,h5,h6,h7,hC⟩:=hI
    have H0':=hid h0;have H1':=hid h1;have H2':=hid h2;have H3':=hid h3;have H4':=hid h4;have H5':=hid h5;have H6':=hid h6;have H7':=hid h7;have HC':=hid hC;clear h0 h1 h2 h3 h4 h5 h6 h7 hC
    try simp only [Act.put,gD,gE,gF]
    go_wp2_with fail
    have h0:=H0'.out;have h1:=H1'.out;have h2:=H2'.out;have h3:=H3'.out;have h4:=H4'.out;have h5:=H5'.out;have h6:=H6'.out;have h7:=H7'.out;have hC:=HC'.out
    exact ⟨x0,x1,x2,_,x4,x5,x6,x7,(by first | (simp only [Act.put,gD,gE,gF];done) | rfl),(fun h=>h0 (by simpa using h)),(fun h=>h1 (by simpa using h)),(fun h=>h2 (by simpa using h)),(fun _=>rfl),(fun h=>h4 (by simpa using h)),(fun h=>h5 (by simpa using h)),(fun h=>h6 (by simpa using h)),(fun h=>h7 (by simpa using h)),hC⟩
   ·skip
    obtain ⟨x0,x1,x2,x3,x4,x5,x6,x7,rfl,h0,h1,h2,h3,h4,h5,h6,h7,hC⟩:=hI
    simp [Region.binds] at hdep
    obtain rfl:=h3 (by first | exact hdep | exact hdep.1 | exact hdep.2 | exact hdep.2.1 | exact hdep.2.2 | exact hdep.2.2.1 | exact hdep.2.2.2 | simp_all)
    have t0:=(hC.blk HK1.out (fun h=>h)).cell 1
    simp only [gA,gB,gC] at t0
    have H0':=hid h0;have H1':=hid h1;have H2':=hid h2;have H3':=hid h3;have H4':=hid h4;have H5':=hid h5;have H6':=hid h6;have H7':=hid h7;have HC':=hid hC;clear h0 h1 h2 h3 h4 h5 h6 h7 hC
    try simp only [Act.put,gD,gE,gF]
    go_wp2_with fail
    have h0:=H0'.out;have h1:=H1'.out;have h2:=H2'.out;have h3:=H3'.out;have h4:=H4'.out;have h5:=H5'.out;have h6:=H6'.out;have h7:=H7'.out;have hC:=HC'.out
    exact ⟨x0,x1,x2,_,_,x5,x6,x7,(by first | (simp only [Act.put,gD,gE,gF];done) | rfl),(fun h=>h0 (by simpa using h)),(fun h=>h1 (by simpa using h)),(fun h=>h2 (by simpa using h)),(fun _=>rfl),(fun _=>rfl),(fun h=>h5 (by simpa using h)),(fun h=>h6 (by simpa using h)),(fun h=>h7 (by simpa using h)),hC⟩
   ·skip
    obtain ⟨x0,x1,x2,x3,x4,x5,x6,x7,rfl,h0,h1,h2,h3,h4,h5,h6,h7,hC⟩:=hI
    simp [Region.binds] at hdep
    obtain rfl:=h4 (by first | exact hdep | exact hdep.1 | exact hdep.2 | exact hdep.2.1 | exact hdep.2.2 | exact hdep.2.2.1 | exact hdep.2.2.2 | simp_all)
    have H0':=hid h0;have H1':=hid h1;have H2':=hid h2;have H3':=hid h3;have H4':=hid h4;have H5':=hid h5;have H6':=hid h6;have H7':=hid h7;have HC':=hid hC;clear h0 h1 h2 h3 h4 h5 h6 h7 hC
    try simp only [Act.put,gD,gE,gF]
    go_wp2_with (go_at_call 38;refine (HMO.out _).mono ?_;rintro e w' ⟨rfl,rfl⟩)
    have h0:=H0'.out;have h1:=H1'.out;have h2:=H2'.out;have h3:=H3'.out;have h4:=H4'.out;have h5:=H5'.out;have h6:=H6'.out;have h7:=H7'.out;have hC:=HC'.out
    exact ⟨x0,x1,x2,x3,_,_,x6,x7,(by first | (simp only [Act.put,gD,gE,gF];done) | rfl),(fun h=>h0 (by simpa using h)),(fun h=>h1 (by simpa using h)),(fun h=>h2 (by simpa using h)),(fun h=>h3 (by simpa using h)),(fun _=>rfl),(fun _=>rfl),(fun h=>h6 (by simpa using h)),(fun h=>h7 (by simpa using h)),hC⟩
   ·skip
    obtain ⟨x0,x1,x2,x3,x4,x5,x6,x7,rfl,h0,h1,h2,h3,h4,h5,h6,h7,hC⟩:=hI
    simp [Region.binds] at hdep
    obtain rfl:=h2 (by first | exact hdep | exact hdep.1 | exact hdep.2 | exact hdep.2.1 | exact hdep.2.2 | exact hdep.2.2.1 | exact hdep.2.2.2 | simp_all)
    obtain rfl:=h5 (by first | exact hdep | exact hdep.1 | exact hdep.2 | exact hdep.2.1 | exact hdep.2.2 | exact hdep.2.2.1 | exact hdep.2.2.2 | simp_all)
    have H0':=hid h0;have H1':=hid h1;have H2':=hid h2;have H3':=hid h3;have H4':=hid h4;have H5':=hid h5;have H6':=hid h6;have H7':=hid h7;have HC':=hid hC;clear h0 h1 h2 h3 h4 h5 h6 h7 hC
    try simp only [Act.put,gD,gE,gF]
    go_wp2_with (go_at_call 37;refine (HCH.out _).mono ?_;rintro e w' ⟨rfl,rfl⟩)
    have h0:=H0'.out;have h1:=H1'.out;have h2:=H2'.out;have h3:=H3'.out;have h4:=H4'.out;have h5:=H5'.out;have h6:=H6'.out;have h7:=H7'.out;have hC:=HC'.out
    exact ⟨x0,x1,_,x3,x4,_,_,x7,(by first | (simp only [Act.put,gD,gE,gF];done) | rfl),(fun h=>h0 (by simpa using h)),(fun h=>h1 (by simpa using h)),(fun _=>rfl),(fun h=>h3 (by simpa using h)),(fun h=>h4 (by simpa using h)),(fun _=>rfl),(fun _=>rfl),(fun h=>h7 (by simpa using h)),hC⟩
   ·skip
    obtain ⟨x0,x1,x2,x3,x4,x5,x6,x7,rfl,h0,h1,h2,h3,h4,h5,h6,h7,hC⟩:=hI
    simp [Region.binds] at hdep
    obtain rfl:=h6 (by first | exact hdep | exact hdep.1 | exact hdep.2 | exact hdep.2.1 | exact hdep.2.2 | exact hdep.2.2.1 | exact hdep.2.2.2 | simp_all)
    have H0':=hid h0;have H1':=hid h1;have H2':=hid h2;have H3':=hid h3;have H4':=hid h4;have H5':=hid h5;have H6':=hid h6;have H7':=hid h7;have HC':=hid hC;clear h0 h1 h2 h3 h4 h5 h6 h7 hC
    try simp only [Act.put,gD,gE,gF]
    go_wp2_with fail
    have h0:=H0'.out;have h1:=H1'.out;have h2:=H2'.out;have h3:=H3'.out;have h4:=H4'.out;have h5:=H5'.out;have h6:=H6'.out;have h7:=H7'.out;have hC:=HC'.out
    exact ⟨x0,x1,x2,x3,x4,x5,_,_,(by first | (simp only [Act.put,gD,gE,gF];done) | rfl),(fun h=>h0 (by simpa using h)),(fun h=>h1 (by simpa using h)),(fun h=>h2 (by simpa using h)),(fun h=>h3 (by simpa using h)),(fun h=>h4 (by simpa using h)),(fun h=>h5 (by simpa using h)),(fun _=>rfl),(fun _=>rfl),hC⟩
  ·intro f a' wx hall hI
   obtain ⟨x0,x1,x2,x3,x4,x5,x6,x7,rfl,h0,h1,h2,h3,h4,h5,h6,h7,hC⟩:=hI
   obtain rfl:=h0 (hall 0 (by simp))
   obtain rfl:=h1 (hall 1 (by simp))
   obtain rfl:=h2 (hall 2 (by simp))
   obtain rfl:=h3 (hall 3 (by simp))
   obtain rfl:=h4 (hall 4 (by simp))
   obtain rfl:=h5 (hall 5 (by simp))
   obtain rfl:=h6 (hall 6 (by simp))
   obtain rfl:=h7 (hall 7 (by simp))
   clear h0 h1 h2 h3 h4 h5 h6 h7 hall f
   try simp only [Act.put,gD,gE,gF]
   have hb9:=HB4.out.trans (hC.below (B:=s) (fun _ h=>h.elim) (by have:=HK0.out.lt;omega))
   have hcx:=HCV.out wx hb9
   have k0:=hC.blk HK0.out (fun h=>h)
   have k1:=hC.blk HK1.out (fun h=>h)
   have k2:=hC.blk HK2.out (fun h=>h)
   have k3:=hC.blk HK3.out (fun h=>h)
   have l0:=k0.lt
   have l3:=k3.lt
   have a0:=k0.cell 0;have a1:=k0.cell 1;have a2:=k0.cell 2;have a3:=k0.cell 3;have a4:=k0.cell 4;have a5:=k0.cell 5;have a6:=k0.cell 6;have a7:=k0.cell 7;have a8:=k0.cell 8;have a9:=k0.cell 9
   have f0:=k0.frozen 0;have f1:=k0.frozen 1;have f2:=k0.frozen 2;have f3:=k0.frozen 3;have f4:=k0.frozen 4;have f5:=k0.frozen 5;have f6:=k0.frozen 6;have f7:=k0.frozen 7;have f8:=k0.frozen 8;have f9:=k0.frozen 9
   have b0:=k3.cell 0;have b1:=k3.cell 1;have b2:=k3.cell 2;have b3:=k3.cell 3;have b4:=k3.cell 4;have b5:=k3.cell 5;have b6:=k3.cell 6;have b7:=k3.cell 7;have b8:=k3.cell 8;have b9:=k3.cell 9
   have g0:=k3.frozen 0;have g1:=k3.frozen 1;have g2:=k3.frozen 2;have g3:=k3.frozen 3;have g4:=k3.frozen 4;have g5:=k3.frozen 5;have g6:=k3.frozen 6;have g7:=k3.frozen 7;have g8:=k3.frozen 8;have g9:=k3.frozen 9
   have x2:=k1.cell 2
   have y3:=k2.cell 3
   simp only [gA,gB,gC] at a0 b0 a1 b1 a2 b2 a3 b3 a4 b4 a5 b5 a6 b6 a7 b7 a8 b8 a9 b9 x2 y3
   have HB9:=hid hb9
   have H0:=hid k0
   have H3:=hid k3
   clear k0 k1 k2 k3 hb9 hC HK0 HK1 HK2 HK3 HB4
   go_wp2_with fail
   have hc1:Chg (fun x=>x=s) wx (wx.setCell ⟨s,7,none⟩ (.string q)):=(Chg.refl (fun x=>x=s) wx).set_ (.inl rfl) 7 _
   have hs3:=hc1.blk H3.out (by omega)
   obtain ⟨h5,hc5⟩:=mstore hs3 (.int .u8 (mk:Int)) (.int .u64 (n0:Int)) (.int .u64 (n1:Int)) (.int .u64 (n2:Int)) (.int .u64 (n3:Int)) (.int .u64 (n4:Int)) (.int .u64 (n5:Int)) (.string q) (.string s1) (.slice mA len mc)
   have hbR:=(HB9.out.trans (hc1.below (B:=s) (fun x hx=>by omega) (by omega))).trans (hc5.below (B:=s) (fun x hx=>by omega) (by have:=hs3.lt;omega))
   have r0:=h5.cell 0;have r1:=h5.cell 1;have r2:=h5.cell 2;have r3:=h5.cell 3;have r4:=h5.cell 4;have r5:=h5.cell 5;have r6:=h5.cell 6;have r7:=h5.cell 7;have r8:=h5.cell 8;have r9:=h5.cell 9
   simp only [gA,gB,gC] at r0 r1 r2 r3 r4 r5 r6 r7 r8 r9
   refine bodyPost_ret (v:=.tuple #[.agg #[.int .u8 (mk:Int),.int .u64 (n0:Int),.int .u64 (n1:Int),.int .u64 (n2:Int),.int .u64 (n3:Int),.int .u64 (n4:Int),.int .u64 (n5:Int),.string q,.string s1,.slice mA len mc],.int .i64 0]) (by simp [results,Tryz.results24,go_sem,r0,r1,r2,r3,r4,r5,r6,r7,r8,r9]) rfl ⟨by rw [<-HU.out];rfl,hbR⟩
 ·go_enter Tryz.func24,Tryz.ntmps24
  go_wp2_with fail
  generalize ((((w.alloc (.cells #[.int .u8 (mk:Int),.int .u64 (n0:Int),.int .u64 (n1:Int),.int .u64 (n2:Int),.int .u64 (n3:Int),.int .u64 (n4:Int),.int .u64 (n5:Int),.string s0,.string s1,.slice mA len mc] 29)).alloc (.cells #[.int .i64 num,.int .i64 t,.int .i64 1] 57)).alloc (.cells #[.int .i64 fnum,.int .u8 fw,.int .u64 (fn:Int),.slice fA xl fc,.int .i64 fat] 61)).alloc (.cells #[.int .u8 0,.int .u64 0,.int .u64 0,.int .u64 0,.int .u64 0,.int .u64 0,.int .u64 0,.string ⟨#[]⟩,.string ⟨#[]⟩,.slice none 0 0] 29))=W4 at *
  refine wp_region_invB (by kernel_rfl) (by kernel_rfl) (RsR17 s t q fA xl fc mo 0) ?_ ?_ ?_
  ·exact ⟨undef,undef,undef,undef,undef,undef,undef,undef,(by first | (simp only [Act.put,gD,gE,gF];done) | rfl),by simp,by simp,by simp,by simp,by simp,by simp,by simp,by simp,⟨rfl,rfl,rfl,Nat.le_refl _,fun _ _ _=>rfl⟩⟩
  ·intro f a' wx i o ho hf hdep hI
   have hi:i < 8:=(Array.getElem?_eq_some_iff.1 ho).1
   have hcase:i=0\/i=1\/i=2\/i=3\/i=4\/i=5\/i=6\/i=7:=by omega
   clear hi
   rcases hcase with rfl | rfl | rfl | rfl | rfl | rfl | rfl | rfl
   all_goals
    simp only [gA,gB,gC,Option.some.injEq] at ho
    subst ho
   ·skip
    obtain ⟨x0,x1,x2,x3,x4,x5,x6,x7,rfl,h0,h1,h2,h3,h4,h5,h6,h7,hC⟩:=hI
    have H0':=hid h0;have H1':=hid h1;have H2':=hid h2;have H3':=hid h3;have H4':=hid h4;have H5':=hid h5;have H6':=hid h6;have H7':=hid h7;have HC':=hid hC;clear h0 h1 h2 h3 h4 h5 h6 h7 hC
    try simp only [Act.put,gD,gE,gF]
    go_wp2_with fail
    have h0:=H0'.out;have h1:=H1'.out;have h2:=H2'.out;have h3:=H3'.out;have h4:=H4'.out;have h5:=H5'.out;have h6:=H6'.out;have h7:=H7'.out;have hC:=HC'.out
    exact ⟨_,x1,x2,x3,x4,x5,x6,x7,(by first | (simp only [Act.put,gD,gE,gF];done) | rfl),(fun _=>rfl),(fun h=>h1 (by simpa using h)),(fun h=>h2 (by simpa using h)),(fun h=>h3 (by simpa using h)),(fun h=>h4 (by simpa using h)),(fun h=>h5 (by simpa using h)),(fun h=>h6 (by simpa using h)),(fun h=>h7 (by simpa using h)),hC⟩
   ·skip
    obtain ⟨x0,x1,x2,x3,x4,x5,x6,x7,rfl,h0,h1,h2,h3,h4,h5,h6,h7,hC⟩:=hI
    simp [Region.binds] at hdep
    obtain rfl:=h0 (by first | exact hdep | exact hdep.1 | exact hdep.2 | exact hdep.2.1 | exact hdep.2.2 | exact hdep.2.2.1 | exact hdep.2.2.2 | simp_all)
    have t0:=(hC.blk HK2.out (fun h=>h)).cell 3
    simp only [gA,gB,gC] at t0
    have H0':=hid h0;have H1':=hid h1;have H2':=hid h2;have H3':=hid h3;have H4':=hid h4;have H5':=hid h5;have H6':=hid h6;have H7':=hid h7;have HC':=hid hC;clear h0 h1 h2 h3 h4 h5 h6 h7 hC
    try simp only [Act.put,gD,gE,gF]
    go_wp2_with fail
    have h0:=H0'.out;have h1:=H1'.out;have h2:=H2'.out;have h3:=H3'.out;have h4:=H4'.out;have h5:=H5'.out;have h6:=H6'.out;have h7:=H7'.out;have hC:=HC'.out
    exact ⟨_,_,x2,x3,x4,x5,x6,x7,(by first | (simp only [Act.put,gD,gE,gF];done) | rfl),(fun _=>rfl),(fun _=>rfl),(fun h=>h2 (by simpa using h)),(fun h=>h3 (by simpa using h)),(fun h=>h4 (by simpa using h)),(fun h=>h5 (by simpa using h)),(fun h=>h6 (by simpa using h)),(fun h=>h7 (by simpa using h)),hC⟩
   ·skip
    obtain ⟨x0,x1,x2,x3,x4,x5,x6,x7,rfl,h0,h1,h2,h3,h4,h5,h6,h7,hC⟩:=hI
    simp [Region.binds] at hdep
    obtain rfl:=h1 (by first | exact hdep | exact hdep.1 | exact hdep.2 | exact hdep.2.1 | exact hdep.2.2 | exact hdep.2.2.1 | exact hdep.2.2.2 | simp_all)
    have hcx:=HCV.out wx (HB4.out.trans (hC.below (B:=s) (fun _ h=>h.elim) (by have:=HK0.out.lt;omega)))
    have H0':=hid h0;have H1':=hid h1;have H2':=hid h2;have H3':=hid h3;have H4':=hid h4;have H5':=hid h5;have H6':=hid h6;have H7':=hid h7;have HC':=hid hC;clear h0 h1 h2 h3 h4 h5 h6 h7 hC
    try simp only [Act.put,gD,gE,gF]
    go_wp2_with fail
    have h0:=H0'.out;have h1:=H1'.out;have h2:=H2'.out;have h3:=H3'.out;have h4:=H4'.out;have h5:=H5'.out;have h6:=H6'.out;have h7:=H7'.out;have hC:=HC'.out
    exact ⟨x0,_,_,x3,x4,x5,x6,x7,(by first | (simp only [Act.put,gD,gE,gF];done) | rfl),(fun h=>h0 (by simpa using h)),(fun _=>rfl),(fun _=>rfl),(fun h=>h3 (by simpa using h)),(fun h=>h4 (by simpa using h)),(fun h=>h5 (by simpa using h)),(fun h=>h6 (by simpa using h)),(fun h=>h7 (by simpa using h)),hC⟩
   ·skip
    obtain ⟨x0,x1,x2,x3,x4,x5,x6,x7,rfl,h0,h1,h2,h3,h4,h5,h6,h7,hC⟩:=hI
    have H0':=hid h0;have H1':=hid h1;have H2':=hid h2;have H3':=hid h3;have H4':=hid h4;have H5':=hid h5;have H6':=hid h6;have H7':=hid h7;have HC':=hid hC;clear h0 h1 h2 h3 h4 h5 h6 h7 hC
    try simp only [Act.put,gD,gE,gF]
    go_wp2_with fail
    have h0:=H0'.out;have h1:=H1'.out;have h2:=H2'.out;have h3:=H3'.out;have h4:=H4'.out;have h5:=H5'.out;have h6:=H6'.out;have h7:=H7'.out;have hC:=HC'.out
    exact ⟨x0,x1,x2,_,x4,x5,x6,x7,(by first | (simp only [Act.put,gD,gE,gF];done) | rfl),(fun h=>h0 (by simpa using h)),(fun h=>h1 (by simpa using h)),(fun h=>h2 (by simpa using h)),(fun _=>rfl),(fun h=>h4 (by simpa using h)),(fun h=>h5 (by simpa using h)),(fun h=>h6 (by simpa using h)),(fun h=>h7 (by simpa using h)),hC⟩
   ·skip
    obtain ⟨x0,x1,x2,x3,x4,x5,x6,x7,rfl,h0,h1,h2,h3,h4,h5,h6,h7,hC⟩:=hI
    simp [Region.binds] at hdep
    obtain rfl:=h3 (by first | exact hdep | exact hdep.1 | exact hdep.2 | exact hdep.2.1 | exact hdep.2.2 | exact hdep.2.2.1 | exact hdep.2.2.2 | simp_all)
    have t0:=(hC.blk HK1.out (fun h=>h)).cell 1
    simp only [gA,gB,gC] at t0
    have H0':=hid h0;have H1':=hid h1;have H2':=hid h2;have H3':=hid h3;have H4':=hid h4;have H5':=hid h5;have H6':=hid h6;have H7':=hid h7;have HC':=hid hC;clear h0 h1 h2 h3 h4 h5 h6 h7 hC
    try simp only [Act.put,gD,gE,gF]
    go_wp2_with fail
    have h0:=H0'.out;have h1:=H1'.out;have h2:=H2'.out;have h3:=H3'.out;have h4:=H4'.out;have h5:=H5'.out;have h6:=H6'.out;have h7:=H7'.out;have hC:=HC'.out
    exact ⟨x0,x1,x2,_,_,x5,x6,x7,(by first | (simp only [Act.put,gD,gE,gF];done) | rfl),(fun h=>h0 (by simpa using h)),(fun h=>h1 (by simpa using h)),(fun h=>h2 (by simpa using h)),(fun _=>rfl),(fun _=>rfl),(fun h=>h5 (by simpa using h)),(fun h=>h6 (by simpa using h)),(fun h=>h7 (by simpa using h)),hC⟩
   ·skip
    obtain ⟨x0,x1,x2,x3,x4,x5,x6,x7,rfl,h0,h1,h2,h3,h4,h5,h6,h7,hC⟩:=hI
    simp [Region.binds] at hdep
    obtain rfl:=h4 (by first | exact hdep | exact hdep.1 | exact hdep.2 | exact hdep.2.1 | exact hdep.2.2 | exact hdep.2.2.1 | exact hdep.2.2.2 | simp_all)
    have H0':=hid h0;have H1':=hid h1;have H2':=hid h2;have H3':=hid h3;have H4':=hid h4;have H5':=hid h5;have H6':=hid h6;have H7':=hid h7;have HC':=hid hC;clear h0 h1 h2 h3 h4 h5 h6 h7 hC
    try simp only [Act.put,gD,gE,gF]
    go_wp2_with (go_at_call 38;refine (HMO.out _).mono ?_;rintro e w' ⟨rfl,rfl⟩)
    have h0:=H0'.out;have h1:=H1'.out;have h2:=H2'.out;have h3:=H3'.out;have h4:=H4'.out;have h5:=H5'.out;have h6:=H6'.out;have h7:=H7'.out;have hC:=HC'.out
    exact ⟨x0,x1,x2,x3,_,_,x6,x7,(by first | (simp only [Act.put,gD,gE,gF];done) | rfl),(fun h=>h0 (by simpa using h)),(fun h=>h1 (by simpa using h)),(fun h=>h2 (by simpa using h)),(fun h=>h3 (by simpa using h)),(fun _=>rfl),(fun _=>rfl),(fun h=>h6 (by simpa using h)),(fun h=>h7 (by simpa using h)),hC⟩
   ·skip
    obtain ⟨x0,x1,x2,x3,x4,x5,x6,x7,rfl,h0,h1,h2,h3,h4,h5,h6,h7,hC⟩:=hI
    simp [Region.binds] at hdep
    obtain rfl:=h2 (by first | exact hdep | exact hdep.1 | exact hdep.2 | exact hdep.2.1 | exact hdep.2.2 | exact hdep.2.2.1 | exact hdep.2.2.2 | simp_all)
    obtain rfl:=h5 (by first | exact hdep | exact hdep.1 | exact hdep.2 | exact hdep.2.1 | exact hdep.2.2 | exact hdep.2.2.1 | exact hdep.2.2.2 | simp_all)
    have H0':=hid h0;have H1':=hid h1;have H2':=hid h2;have H3':=hid h3;have H4':=hid h4;have H5':=hid h5;have H6':=hid h6;have H7':=hid h7;have HC':=hid hC;clear h0 h1 h2 h3 h4 h5 h6 h7 hC
    try simp only [Act.put,gD,gE,gF]
    go_wp2_with (go_at_call 37;refine (HCH.out _).mono ?_;rintro e w' ⟨rfl,rfl⟩)
    have h0:=H0'.out;have h1:=H1'.out;have h2:=H2'.out;have h3:=H3'.out;have h4:=H4'.out;have h5:=H5'.out;have h6:=H6'.out;have h7:=H7'.out;have hC:=HC'.out
    exact ⟨x0,x1,_,x3,x4,_,_,x7,(by first | (simp only [Act.put,gD,gE,gF];done) | rfl),(fun h=>h0 (by simpa using h)),(fun h=>h1 (by simpa using h)),(fun _=>rfl),(fun h=>h3 (by simpa using h)),(fun h=>h4 (by simpa using h)),(fun _=>rfl),(fun _=>rfl),(fun h=>h7 (by simpa using h)),hC⟩
   ·skip
    obtain ⟨x0,x1,x2,x3,x4,x5,x6,x7,rfl,h0,h1,h2,h3,h4,h5,h6,h7,hC⟩:=hI
    simp [Region.binds] at hdep
    obtain rfl:=h6 (by first | exact hdep | exact hdep.1 | exact hdep.2 | exact hdep.2.1 | exact hdep.2.2 | exact hdep.2.2.1 | exact hdep.2.2.2 | simp_all)
    have H0':=hid h0;have H1':=hid h1;have H2':=hid h2;have H3':=hid h3;have H4':=hid h4;have H5':=hid h5;have H6':=hid h6;have H7':=hid h7;have HC':=hid hC;clear h0 h1 h2 h3 h4 h5 h6 h7 hC
    try simp only [Act.put,gD,gE,gF]
    go_wp2_with fail
    have h0:=H0'.out;have h1:=H1'.out;have h2:=H2'.out;have h3:=H3'.out;have h4:=H4'.out;have h5:=H5'.out;have h6:=H6'.out;have h7:=H7'.out;have hC:=HC'.out
    exact ⟨x0,x1,x2,x3,x4,x5,_,_,(by first | (simp only [Act.put,gD,gE,gF];done) | rfl),(fun h=>h0 (by simpa using h)),(fun h=>h1 (by simpa using h)),(fun h=>h2 (by simpa using h)),(fun h=>h3 (by simpa using h)),(fun h=>h4 (by simpa using h)),(fun h=>h5 (by simpa using h)),(fun _=>rfl),(fun _=>rfl),hC⟩
  ·intro f a' wx hall hI
   obtain ⟨x0,x1,x2,x3,x4,x5,x6,x7,rfl,h0,h1,h2,h3,h4,h5,h6,h7,hC⟩:=hI
   obtain rfl:=h0 (hall 0 (by simp))
   obtain rfl:=h1 (hall 1 (by simp))
   obtain rfl:=h2 (hall 2 (by simp))
   obtain rfl:=h3 (hall 3 (by simp))
   obtain rfl:=h4 (hall 4 (by simp))
   obtain rfl:=h5 (hall 5 (by simp))
   obtain rfl:=h6 (hall 6 (by simp))
   obtain rfl:=h7 (hall 7 (by simp))
   clear h0 h1 h2 h3 h4 h5 h6 h7 hall f
   try simp only [Act.put,gD,gE,gF]
   have hb9:=HB4.out.trans (hC.below (B:=s) (fun _ h=>h.elim) (by have:=HK0.out.lt;omega))
   have hcx:=HCV.out wx hb9
   have k0:=hC.blk HK0.out (fun h=>h)
   have k1:=hC.blk HK1.out (fun h=>h)
   have k2:=hC.blk HK2.out (fun h=>h)
   have k3:=hC.blk HK3.out (fun h=>h)
   have l0:=k0.lt
   have l3:=k3.lt
   have a0:=k0.cell 0;have a1:=k0.cell 1;have a2:=k0.cell 2;have a3:=k0.cell 3;have a4:=k0.cell 4;have a5:=k0.cell 5;have a6:=k0.cell 6;have a7:=k0.cell 7;have a8:=k0.cell 8;have a9:=k0.cell 9
   have f0:=k0.frozen 0;have f1:=k0.frozen 1;have f2:=k0.frozen 2;have f3:=k0.frozen 3;have f4:=k0.frozen 4;have f5:=k0.frozen 5;have f6:=k0.frozen 6;have f7:=k0.frozen 7;have f8:=k0.frozen 8;have f9:=k0.frozen 9
   have b0:=k3.cell 0;have b1:=k3.cell 1;have b2:=k3.cell 2;have b3:=k3.cell 3;have b4:=k3.cell 4;have b5:=k3.cell 5;have b6:=k3.cell 6;have b7:=k3.cell 7;have b8:=k3.cell 8;have b9:=k3.cell 9
   have g0:=k3.frozen 0;have g1:=k3.frozen 1;have g2:=k3.frozen 2;have g3:=k3.frozen 3;have g4:=k3.frozen 4;have g5:=k3.frozen 5;have g6:=k3.frozen 6;have g7:=k3.frozen 7;have g8:=k3.frozen 8;have g9:=k3.frozen 9
   have x2:=k1.cell 2
   have y3:=k2.cell 3
   simp only [gA,gB,gC] at a0 b0 a1 b1 a2 b2 a3 b3 a4 b4 a5 b5 a6 b6 a7 b7 a8 b8 a9 b9 x2 y3
   have HB9:=hid hb9
   have H0:=hid k0
   have H3:=hid k3
   clear k0 k1 k2 k3 hb9 hC HK0 HK1 HK2 HK3 HB4
   go_wp2_with fail
   have hc1:Chg (fun x=>x=s) wx (wx.setCell ⟨s,8,none⟩ (.string q)):=(Chg.refl (fun x=>x=s) wx).set_ (.inl rfl) 8 _
   have hs3:=hc1.blk H3.out (by omega)
   obtain ⟨h5,hc5⟩:=mstore hs3 (.int .u8 (mk:Int)) (.int .u64 (n0:Int)) (.int .u64 (n1:Int)) (.int .u64 (n2:Int)) (.int .u64 (n3:Int)) (.int .u64 (n4:Int)) (.int .u64 (n5:Int)) (.string s0) (.string q) (.slice mA len mc)
   have hbR:=(HB9.out.trans (hc1.below (B:=s) (fun x hx=>by omega) (by omega))).trans (hc5.below (B:=s) (fun x hx=>by omega) (by have:=hs3.lt;omega))
   have r0:=h5.cell 0;have r1:=h5.cell 1;have r2:=h5.cell 2;have r3:=h5.cell 3;have r4:=h5.cell 4;have r5:=h5.cell 5;have r6:=h5.cell 6;have r7:=h5.cell 7;have r8:=h5.cell 8;have r9:=h5.cell 9
   simp only [gA,gB,gC] at r0 r1 r2 r3 r4 r5 r6 r7 r8 r9
   refine bodyPost_ret (v:=.tuple #[.agg #[.int .u8 (mk:Int),.int .u64 (n0:Int),.int .u64 (n1:Int),.int .u64 (n2:Int),.int .u64 (n3:Int),.int .u64 (n4:Int),.int .u64 (n5:Int),.string s0,.string q,.slice mA len mc],.int .i64 0]) (by simp [results,Tryz.results24,go_sem,r0,r1,r2,r3,r4,r5,r6,r7,r8,r9]) rfl ⟨by rw [<-HU.out];rfl,hbR⟩
theorem rset_text1 (m:MV) (num t i:Int) (fnum fw:Int) (fn:Nat) (fA:Option Addr) (xl fc:Nat) (fat:Int) (xs:List UInt8) (w:World) (ht:t=7\/t=8\/t=9) (hi:i=0\/i=1) (hxl:xs.length=xl) (hx:xl<=9223372036854775807) (hsf:Sl w fA fc (xs.map bv)) (hE:chk ⟨xs.toArray⟩ (mostN t:Nat) ≠ 0) :
  Calls Tryz.prog 24 #[mvV m,.agg #[.int .i64 num,.int .i64 t,.int .i64 i],.agg #[.int .i64 fnum,.int .u8 fw,.int .u64 (fn:Int),.slice fA xl fc,.int .i64 fat]] w fun e w'=>e=.returned (.tuple #[mvV (ZM),.int .i64 (chk ⟨xs.toArray⟩ (mostN t:Nat))])/\Below w.heap.size w w':=by
 have hq:(⟨xs.toArray⟩:ByteArray).size<=9223372036854775807:=by show xs.toArray.size<=_;simp;omega
 have hmo:=fun W=>rmost_any t W
 have hch:=fun W=>rchk_any ⟨xs.toArray⟩ (mostN t:Nat) W hq (by omega) (by rcases ht with rfl | rfl | rfl <;> decide)
 obtain ⟨U,hU⟩:∃ U,mvV (ZM)=U:=⟨_,rfl⟩
 rw [hU]
 have hmc:(((mostN t:Nat):Int))=(((mostN t:Nat):Int)):=rfl
 generalize chk ⟨xs.toArray⟩ (mostN t:Nat)=E at *
 generalize ((mostN t:Nat):Int)=mo at *
 clear hmc
 obtain ⟨len,hlen⟩:∃ n,m.l.length=n:=⟨_,rfl⟩
 unfold mvV mvA at hU ⊢
 unfold ZM at hU
 simp only [hlen] at hU ⊢
 obtain ⟨mk,n0,n1,n2,n3,n4,n5,s0,s1,mA,mc,ml⟩:=m
 simp only at hU hlen ⊢
 clear hlen
 obtain ⟨q,hqe⟩:∃ q:ByteArray,(⟨xs.toArray⟩:ByteArray)=q:=⟨_,rfl⟩
 have hcv:∀ W,Below w.heap.size w W->(convert 22 9 (.slice fA xl fc)).run Tryz.prog W=.ok (.string q) W:=fun W hW=>by
  rw [<-hqe];exact conv_bs11 (hsf.below hW) hxl Tryz.underlying22 Tryz.underlying5 Tryz.underlying9
 rw [hqe] at hch
 obtain ⟨s,hws⟩:∃ s,w.heap.size=s:=⟨_,rfl⟩
 obtain ⟨hk0,hk1,hk2,hk3,hb4⟩:=bx4 hws #[.int .u8 (mk:Int),.int .u64 (n0:Int),.int .u64 (n1:Int),.int .u64 (n2:Int),.int .u64 (n3:Int),.int .u64 (n4:Int),.int .u64 (n5:Int),.string s0,.string s1,.slice mA len mc] #[.int .i64 num,.int .i64 t,.int .i64 i] #[.int .i64 fnum,.int .u8 fw,.int .u64 (fn:Int),.slice fA xl fc,.int .i64 fat] #[.int .u8 0,.int .u64 0,.int .u64 0,.int .u64 0,.int .u64 0,.int .u64 0,.int .u64 0,.string ⟨#[]⟩,.string ⟨#[]⟩,.slice none 0 0] 29 57 61 29
 rw [hws] at hcv ⊢
 have HMO:=hid hmo
 have HCH:=hid hch
 have HU:=hid hU
 have HCV:=hid hcv
 have HK0:=hid hk0
 have HK1:=hid hk1
 have HK2:=hid hk2
 have HK3:=hid hk3
 have HB4:=hid hb4
 have hEb:(E != 0)=true:=by simpa using hE
 clear hmo hch hU hcv hsf hxl hqe hq hk0 hk1 hk2 hk3 hb4
 have h1:1<=t:=by omega
 have h6:¬ t<=6:=by omega
 have h7:7<=t:=by omega
 have h9:t<=9:=by omega
 have ht1:(t == 1)=false:=by simp;omega
 have ht4:(t == 4)=false:=by simp;omega
 have ht3:(t == 3)=false:=by simp;omega
 clear ht hE
 rcases hi with rfl | rfl
 ·go_enter Tryz.func24,Tryz.ntmps24
  go_wp2_with fail
  generalize ((((w.alloc (.cells #[.int .u8 (mk:Int),.int .u64 (n0:Int),.int .u64 (n1:Int),.int .u64 (n2:Int),.int .u64 (n3:Int),.int .u64 (n4:Int),.int .u64 (n5:Int),.string s0,.string s1,.slice mA len mc] 29)).alloc (.cells #[.int .i64 num,.int .i64 t,.int .i64 0] 57)).alloc (.cells #[.int .i64 fnum,.int .u8 fw,.int .u64 (fn:Int),.slice fA xl fc,.int .i64 fat] 61)).alloc (.cells #[.int .u8 0,.int .u64 0,.int .u64 0,.int .u64 0,.int .u64 0,.int .u64 0,.int .u64 0,.string ⟨#[]⟩,.string ⟨#[]⟩,.slice none 0 0] 29))=W4 at *
  refine wp_region_invB (by kernel_rfl) (by kernel_rfl) (RsR17 s t q fA xl fc mo E) ?_ ?_ ?_
  ·exact ⟨undef,undef,undef,undef,undef,undef,undef,undef,(by first | (simp only [Act.put,gD,gE,gF];done) | rfl),by simp,by simp,by simp,by simp,by simp,by simp,by simp,by simp,⟨rfl,rfl,rfl,Nat.le_refl _,fun _ _ _=>rfl⟩⟩
  ·intro f a' wx i o ho hf hdep hI
   have hi:i < 8:=(Array.getElem?_eq_some_iff.1 ho).1
   have hcase:i=0\/i=1\/i=2\/i=3\/i=4\/i=5\/i=6\/i=7:=by omega
   clear hi
   rcases hcase with rfl | rfl | rfl | rfl | rfl | rfl | rfl | rfl
   all_goals
    simp only [gA,gB,gC,Option.some.injEq] at ho
    subst ho
   ·skip
    obtain ⟨x0,x1,x2,x3,x4,x5,x6,x7,rfl,h0,h1,h2,h3,h4,h5,h6,h7,hC⟩:=hI
    have H0':=hid h0;have H1':=hid h1;have H2':=hid h2;have H3':=hid h3;have H4':=hid h4;have H5':=hid h5;have H6':=hid h6;have H7':=hid h7;have HC':=hid hC;clear h0 h1 h2 h3 h4 h5 h6 h7 hC
    try simp only [Act.put,gD,gE,gF]
    go_wp2_with fail
    have h0:=H0'.out;have h1:=H1'.out;have h2:=H2'.out;have h3:=H3'.out;have h4:=H4'.out;have h5:=H5'.out;have h6:=H6'.out;have h7:=H7'.out;have hC:=HC'.out
    exact ⟨_,x1,x2,x3,x4,x5,x6,x7,(by first | (simp only [Act.put,gD,gE,gF];done) | rfl),(fun _=>rfl),(fun h=>h1 (by simpa using h)),(fun h=>h2 (by simpa using h)),(fun h=>h3 (by simpa using h)),(fun h=>h4 (by simpa using h)),(fun h=>h5 (by simpa using h)),(fun h=>h6 (by simpa using h)),(fun h=>h7 (by simpa using h)),hC⟩
   ·skip
    obtain ⟨x0,x1,x2,x3,x4,x5,x6,x7,rfl,h0,h1,h2,h3,h4,h5,h6,h7,hC⟩:=hI
    simp [Region.binds] at hdep
    obtain rfl:=h0 (by first | exact hdep | exact hdep.1 | exact hdep.2 | exact hdep.2.1 | exact hdep.2.2 | exact hdep.2.2.1 | exact hdep.2.2.2 | simp_all)
    have t0:=(hC.blk HK2.out (fun h=>h)).cell 3
    simp only [gA,gB,gC] at t0
    have H0':=hid h0;have H1':=hid h1;have H2':=hid h2;have H3':=hid h3;have H4':=hid h4;have H5':=hid h5;have H6':=hid h6;have H7':=hid h7;have HC':=hid hC;clear h0 h1 h2 h3 h4 h5 h6 h7 hC
    try simp only [Act.put,gD,gE,gF]
    go_wp2_with fail
    have h0:=H0'.out;have h1:=H1'.out;have h2:=H2'.out;have h3:=H3'.out;have h4:=H4'.out;have h5:=H5'.out;have h6:=H6'.out;have h7:=H7'.out;have hC:=HC'.out
    exact ⟨_,_,x2,x3,x4,x5,x6,x7,(by first | (simp only [Act.put,gD,gE,gF];done) | rfl),(fun _=>rfl),(fun _=>rfl),(fun h=>h2 (by simpa using h)),(fun h=>h3 (by simpa using h)),(fun h=>h4 (by simpa using h)),(fun h=>h5 (by simpa using h)),(fun h=>h6 (by simpa using h)),(fun h=>h7 (by simpa using h)),hC⟩
   ·skip
    obtain ⟨x0,x1,x2,x3,x4,x5,x6,x7,rfl,h0,h1,h2,h3,h4,h5,h6,h7,hC⟩:=hI
    simp [Region.binds] at hdep
    obtain rfl:=h1 (by first | exact hdep | exact hdep.1 | exact hdep.2 | exact hdep.2.1 | exact hdep.2.2 | exact hdep.2.2.1 | exact hdep.2.2.2 | simp_all)
    have hcx:=HCV.out wx (HB4.out.trans (hC.below (B:=s) (fun _ h=>h.elim) (by have:=HK0.out.lt;omega)))
    have H0':=hid h0;have H1':=hid h1;have H2':=hid h2;have H3':=hid h3;have H4':=hid h4;have H5':=hid h5;have H6':=hid h6;have H7':=hid h7;have HC':=hid hC;clear h0 h1 h2 h3 h4 h5 h6 h7 hC
    try simp only [Act.put,gD,gE,gF]
    go_wp2_with fail
    have h0:=H0'.out;have h1:=H1'.out;have h2:=H2'.out;have h3:=H3'.out;have h4:=H4'.out;have h5:=H5'.out;have h6:=H6'.out;have h7:=H7'.out;have hC:=HC'.out
    exact ⟨x0,_,_,x3,x4,x5,x6,x7,(by first | (simp only [Act.put,gD,gE,gF];done) | rfl),(fun h=>h0 (by simpa using h)),(fun _=>rfl),(fun _=>rfl),(fun h=>h3 (by simpa using h)),(fun h=>h4 (by simpa using h)),(fun h=>h5 (by simpa using h)),(fun h=>h6 (by simpa using h)),(fun h=>h7 (by simpa using h)),hC⟩
   ·skip
    obtain ⟨x0,x1,x2,x3,x4,x5,x6,x7,rfl,h0,h1,h2,h3,h4,h5,h6,h7,hC⟩:=hI
    have H0':=hid h0;have H1':=hid h1;have H2':=hid h2;have H3':=hid h3;have H4':=hid h4;have H5':=hid h5;have H6':=hid h6;have H7':=hid h7;have HC':=hid hC;clear h0 h1 h2 h3 h4 h5 h6 h7 hC
    try simp only [Act.put,gD,gE,gF]
    go_wp2_with fail
    have h0:=H0'.out;have h1:=H1'.out;have h2:=H2'.out;have h3:=H3'.out;have h4:=H4'.out;have h5:=H5'.out;have h6:=H6'.out;have h7:=H7'.out;have hC:=HC'.out
    exact ⟨x0,x1,x2,_,x4,x5,x6,x7,(by first | (simp only [Act.put,gD,gE,gF];done) | rfl),(fun h=>h0 (by simpa using h)),(fun h=>h1 (by simpa using h)),(fun h=>h2 (by simpa using h)),(fun _=>rfl),(fun h=>h4 (by simpa using h)),(fun h=>h5 (by simpa using h)),(fun h=>h6 (by simpa using h)),(fun h=>h7 (by simpa using h)),hC⟩
   ·skip
    obtain ⟨x0,x1,x2,x3,x4,x5,x6,x7,rfl,h0,h1,h2,h3,h4,h5,h6,h7,hC⟩:=hI
    simp [Region.binds] at hdep
    obtain rfl:=h3 (by first | exact hdep | exact hdep.1 | exact hdep.2 | exact hdep.2.1 | exact hdep.2.2 | exact hdep.2.2.1 | exact hdep.2.2.2 | simp_all)
    have t0:=(hC.blk HK1.out (fun h=>h)).cell 1
    simp only [gA,gB,gC] at t0
    have H0':=hid h0;have H1':=hid h1;have H2':=hid h2;have H3':=hid h3;have H4':=hid h4;have H5':=hid h5;have H6':=hid h6;have H7':=hid h7;have HC':=hid hC;clear h0 h1 h2 h3 h4 h5 h6 h7 hC
    try simp only [Act.put,gD,gE,gF]
    go_wp2_with fail
    have h0:=H0'.out;have h1:=H1'.out;have h2:=H2'.out;have h3:=H3'.out;have h4:=H4'.out;have h5:=H5'.out;have h6:=H6'.out;have h7:=H7'.out;have hC:=HC'.out
    exact ⟨x0,x1,x2,_,_,x5,x6,x7,(by first | (simp only [Act.put,gD,gE,gF];done) | rfl),(fun h=>h0 (by simpa using h)),(fun h=>h1 (by simpa using h)),(fun h=>h2 (by simpa using h)),(fun _=>rfl),(fun _=>rfl),(fun h=>h5 (by simpa using h)),(fun h=>h6 (by simpa using h)),(fun h=>h7 (by simpa using h)),hC⟩
   ·skip
    obtain ⟨x0,x1,x2,x3,x4,x5,x6,x7,rfl,h0,h1,h2,h3,h4,h5,h6,h7,hC⟩:=hI
    simp [Region.binds] at hdep
    obtain rfl:=h4 (by first | exact hdep | exact hdep.1 | exact hdep.2 | exact hdep.2.1 | exact hdep.2.2 | exact hdep.2.2.1 | exact hdep.2.2.2 | simp_all)
    have H0':=hid h0;have H1':=hid h1;have H2':=hid h2;have H3':=hid h3;have H4':=hid h4;have H5':=hid h5;have H6':=hid h6;have H7':=hid h7;have HC':=hid hC;clear h0 h1 h2 h3 h4 h5 h6 h7 hC
    try simp only [Act.put,gD,gE,gF]
    go_wp2_with (go_at_call 38;refine (HMO.out _).mono ?_;rintro e w' ⟨rfl,rfl⟩)
    have h0:=H0'.out;have h1:=H1'.out;have h2:=H2'.out;have h3:=H3'.out;have h4:=H4'.out;have h5:=H5'.out;have h6:=H6'.out;have h7:=H7'.out;have hC:=HC'.out
    exact ⟨x0,x1,x2,x3,_,_,x6,x7,(by first | (simp only [Act.put,gD,gE,gF];done) | rfl),(fun h=>h0 (by simpa using h)),(fun h=>h1 (by simpa using h)),(fun h=>h2 (by simpa using h)),(fun h=>h3 (by simpa using h)),(fun _=>rfl),(fun _=>rfl),(fun h=>h6 (by simpa using h)),(fun h=>h7 (by simpa using h)),hC⟩
   ·skip
    obtain ⟨x0,x1,x2,x3,x4,x5,x6,x7,rfl,h0,h1,h2,h3,h4,h5,h6,h7,hC⟩:=hI
    simp [Region.binds] at hdep
    obtain rfl:=h2 (by first | exact hdep | exact hdep.1 | exact hdep.2 | exact hdep.2.1 | exact hdep.2.2 | exact hdep.2.2.1 | exact hdep.2.2.2 | simp_all)
    obtain rfl:=h5 (by first | exact hdep | exact hdep.1 | exact hdep.2 | exact hdep.2.1 | exact hdep.2.2 | exact hdep.2.2.1 | exact hdep.2.2.2 | simp_all)
    have H0':=hid h0;have H1':=hid h1;have H2':=hid h2;have H3':=hid h3;have H4':=hid h4;have H5':=hid h5;have H6':=hid h6;have H7':=hid h7;have HC':=hid hC;clear h0 h1 h2 h3 h4 h5 h6 h7 hC
    try simp only [Act.put,gD,gE,gF]
    go_wp2_with (go_at_call 37;refine (HCH.out _).mono ?_;rintro e w' ⟨rfl,rfl⟩)
    have h0:=H0'.out;have h1:=H1'.out;have h2:=H2'.out;have h3:=H3'.out;have h4:=H4'.out;have h5:=H5'.out;have h6:=H6'.out;have h7:=H7'.out;have hC:=HC'.out
    exact ⟨x0,x1,_,x3,x4,_,_,x7,(by first | (simp only [Act.put,gD,gE,gF];done) | rfl),(fun h=>h0 (by simpa using h)),(fun h=>h1 (by simpa using h)),(fun _=>rfl),(fun h=>h3 (by simpa using h)),(fun h=>h4 (by simpa using h)),(fun _=>rfl),(fun _=>rfl),(fun h=>h7 (by simpa using h)),hC⟩
   ·skip
    obtain ⟨x0,x1,x2,x3,x4,x5,x6,x7,rfl,h0,h1,h2,h3,h4,h5,h6,h7,hC⟩:=hI
    simp [Region.binds] at hdep
    obtain rfl:=h6 (by first | exact hdep | exact hdep.1 | exact hdep.2 | exact hdep.2.1 | exact hdep.2.2 | exact hdep.2.2.1 | exact hdep.2.2.2 | simp_all)
    have H0':=hid h0;have H1':=hid h1;have H2':=hid h2;have H3':=hid h3;have H4':=hid h4;have H5':=hid h5;have H6':=hid h6;have H7':=hid h7;have HC':=hid hC;clear h0 h1 h2 h3 h4 h5 h6 h7 hC
    try simp only [Act.put,gD,gE,gF]
    go_wp2_with fail
    have h0:=H0'.out;have h1:=H1'.out;have h2:=H2'.out;have h3:=H3'.out;have h4:=H4'.out;have h5:=H5'.out;have h6:=H6'.out;have h7:=H7'.out;have hC:=HC'.out
    exact ⟨x0,x1,x2,x3,x4,x5,_,_,(by first | (simp only [Act.put,gD,gE,gF];done) | rfl),(fun h=>h0 (by simpa using h)),(fun h=>h1 (by simpa using h)),(fun h=>h2 (by simpa using h)),(fun h=>h3 (by simpa using h)),(fun h=>h4 (by simpa using h)),(fun h=>h5 (by simpa using h)),(fun _=>rfl),(fun _=>rfl),hC⟩
  ·intro f a' wx hall hI
   obtain ⟨x0,x1,x2,x3,x4,x5,x6,x7,rfl,h0,h1,h2,h3,h4,h5,h6,h7,hC⟩:=hI
   obtain rfl:=h0 (hall 0 (by simp))
   obtain rfl:=h1 (hall 1 (by simp))
   obtain rfl:=h2 (hall 2 (by simp))
   obtain rfl:=h3 (hall 3 (by simp))
   obtain rfl:=h4 (hall 4 (by simp))
   obtain rfl:=h5 (hall 5 (by simp))
   obtain rfl:=h6 (hall 6 (by simp))
   obtain rfl:=h7 (hall 7 (by simp))
   clear h0 h1 h2 h3 h4 h5 h6 h7 hall f
   try simp only [Act.put,gD,gE,gF]
   have hb9:=HB4.out.trans (hC.below (B:=s) (fun _ h=>h.elim) (by have:=HK0.out.lt;omega))
   have hcx:=HCV.out wx hb9
   have k0:=hC.blk HK0.out (fun h=>h)
   have k1:=hC.blk HK1.out (fun h=>h)
   have k2:=hC.blk HK2.out (fun h=>h)
   have k3:=hC.blk HK3.out (fun h=>h)
   have l0:=k0.lt
   have l3:=k3.lt
   have a0:=k0.cell 0;have a1:=k0.cell 1;have a2:=k0.cell 2;have a3:=k0.cell 3;have a4:=k0.cell 4;have a5:=k0.cell 5;have a6:=k0.cell 6;have a7:=k0.cell 7;have a8:=k0.cell 8;have a9:=k0.cell 9
   have f0:=k0.frozen 0;have f1:=k0.frozen 1;have f2:=k0.frozen 2;have f3:=k0.frozen 3;have f4:=k0.frozen 4;have f5:=k0.frozen 5;have f6:=k0.frozen 6;have f7:=k0.frozen 7;have f8:=k0.frozen 8;have f9:=k0.frozen 9
   have b0:=k3.cell 0;have b1:=k3.cell 1;have b2:=k3.cell 2;have b3:=k3.cell 3;have b4:=k3.cell 4;have b5:=k3.cell 5;have b6:=k3.cell 6;have b7:=k3.cell 7;have b8:=k3.cell 8;have b9:=k3.cell 9
   have g0:=k3.frozen 0;have g1:=k3.frozen 1;have g2:=k3.frozen 2;have g3:=k3.frozen 3;have g4:=k3.frozen 4;have g5:=k3.frozen 5;have g6:=k3.frozen 6;have g7:=k3.frozen 7;have g8:=k3.frozen 8;have g9:=k3.frozen 9
   have x2:=k1.cell 2
   have y3:=k2.cell 3
   simp only [gA,gB,gC] at a0 b0 a1 b1 a2 b2 a3 b3 a4 b4 a5 b5 a6 b6 a7 b7 a8 b8 a9 b9 x2 y3
   have HB9:=hid hb9
   have H0:=hid k0
   have H3:=hid k3
   clear k0 k1 k2 k3 hb9 hC HK0 HK1 HK2 HK3 HB4
   go_wp2_with fail
   obtain ⟨h5,hc5⟩:=mstore H3.out (.int .u8 0) (.int .u64 0) (.int .u64 0) (.int .u64 0) (.int .u64 0) (.int .u64 0) (.int .u64 0) (.string ⟨#[]⟩) (.string ⟨#[]⟩) (.slice none 0 0)
   have hbR:=HB9.out.trans (hc5.below (B:=s) (fun x hx=>by omega) (by omega))
   have r0:=h5.cell 0;have r1:=h5.cell 1;have r2:=h5.cell 2;have r3:=h5.cell 3;have r4:=h5.cell 4;have r5:=h5.cell 5;have r6:=h5.cell 6;have r7:=h5.cell 7;have r8:=h5.cell 8;have r9:=h5.cell 9
   simp only [gA,gB,gC] at r0 r1 r2 r3 r4 r5 r6 r7 r8 r9
   refine bodyPost_ret (v:=.tuple #[.agg #[.int .u8 0,.int .u64 0,.int .u64 0,.int .u64 0,.int .u64 0,.int .u64 0,.int .u64 0,.string ⟨#[]⟩,.string ⟨#[]⟩,.slice none 0 0],.int .i64 E]) (by simp [results,Tryz.results24,go_sem,r0,r1,r2,r3,r4,r5,r6,r7,r8,r9]) rfl ⟨by rw [<-HU.out];rfl,hbR⟩
 ·go_enter Tryz.func24,Tryz.ntmps24
  go_wp2_with fail
  generalize ((((w.alloc (.cells #[.int .u8 (mk:Int),.int .u64 (n0:Int),.int .u64 (n1:Int),.int .u64 (n2:Int),.int .u64 (n3:Int),.int .u64 (n4:Int),.int .u64 (n5:Int),.string s0,.string s1,.slice mA len mc] 29)).alloc (.cells #[.int .i64 num,.int .i64 t,.int .i64 1] 57)).alloc (.cells #[.int .i64 fnum,.int .u8 fw,.int .u64 (fn:Int),.slice fA xl fc,.int .i64 fat] 61)).alloc (.cells #[.int .u8 0,.int .u64 0,.int .u64 0,.int .u64 0,.int .u64 0,.int .u64 0,.int .u64 0,.string ⟨#[]⟩,.string ⟨#[]⟩,.slice none 0 0] 29))=W4 at *
  refine wp_region_invB (by kernel_rfl) (by kernel_rfl) (RsR17 s t q fA xl fc mo E) ?_ ?_ ?_
  ·exact ⟨undef,undef,undef,undef,undef,undef,undef,undef,(by first | (simp only [Act.put,gD,gE,gF];done) | rfl),by simp,by simp,by simp,by simp,by simp,by simp,by simp,by simp,⟨rfl,rfl,rfl,Nat.le_refl _,fun _ _ _=>rfl⟩⟩
  ·intro f a' wx i o ho hf hdep hI
   have hi:i < 8:=(Array.getElem?_eq_some_iff.1 ho).1
   have hcase:i=0\/i=1\/i=2\/i=3\/i=4\/i=5\/i=6\/i=7:=by omega
   clear hi
   rcases hcase with rfl | rfl | rfl | rfl | rfl | rfl | rfl | rfl
   all_goals
    simp only [gA,gB,gC,Option.some.injEq] at ho
    subst ho
   ·skip
    obtain ⟨x0,x1,x2,x3,x4,x5,x6,x7,rfl,h0,h1,h2,h3,h4,h5,h6,h7,hC⟩:=hI
    have H0':=hid h0;have H1':=hid h1;have H2':=hid h2;have H3':=hid h3;have H4':=hid h4;have H5':=hid h5;have H6':=hid h6;have H7':=hid h7;have HC':=hid hC;clear h0 h1 h2 h3 h4 h5 h6 h7 hC
    try simp only [Act.put,gD,gE,gF]
    go_wp2_with fail
    have h0:=H0'.out;have h1:=H1'.out;have h2:=H2'.out;have h3:=H3'.out;have h4:=H4'.out;have h5:=H5'.out;have h6:=H6'.out;have h7:=H7'.out;have hC:=HC'.out
    exact ⟨_,x1,x2,x3,x4,x5,x6,x7,(by first | (simp only [Act.put,gD,gE,gF];done) | rfl),(fun _=>rfl),(fun h=>h1 (by simpa using h)),(fun h=>h2 (by simpa using h)),(fun h=>h3 (by simpa using h)),(fun h=>h4 (by simpa using h)),(fun h=>h5 (by simpa using h)),(fun h=>h6 (by simpa using h)),(fun h=>h7 (by simpa using h)),hC⟩
   ·skip
    obtain ⟨x0,x1,x2,x3,x4,x5,x6,x7,rfl,h0,h1,h2,h3,h4,h5,h6,h7,hC⟩:=hI
    simp [Region.binds] at hdep
    obtain rfl:=h0 (by first | exact hdep | exact hdep.1 | exact hdep.2 | exact hdep.2.1 | exact hdep.2.2 | exact hdep.2.2.1 | exact hdep.2.2.2 | simp_all)
    have t0:=(hC.blk HK2.out (fun h=>h)).cell 3
    simp only [gA,gB,gC] at t0
    have H0':=hid h0;have H1':=hid h1;have H2':=hid h2;have H3':=hid h3;have H4':=hid h4;have H5':=hid h5;have H6':=hid h6;have H7':=hid h7;have HC':=hid hC;clear h0 h1 h2 h3 h4 h5 h6 h7 hC
    try simp only [Act.put,gD,gE,gF]
    go_wp2_with fail
    have h0:=H0'.out;have h1:=H1'.out;have h2:=H2'.out;have h3:=H3'.out;have h4:=H4'.out;have h5:=H5'.out;have h6:=H6'.out;have h7:=H7'.out;have hC:=HC'.out
    exact ⟨_,_,x2,x3,x4,x5,x6,x7,(by first | (simp only [Act.put,gD,gE,gF];done) | rfl),(fun _=>rfl),(fun _=>rfl),(fun h=>h2 (by simpa using h)),(fun h=>h3 (by simpa using h)),(fun h=>h4 (by simpa using h)),(fun h=>h5 (by simpa using h)),(fun h=>h6 (by simpa using h)),(fun h=>h7 (by simpa using h)),hC⟩
   ·skip
    obtain ⟨x0,x1,x2,x3,x4,x5,x6,x7,rfl,h0,h1,h2,h3,h4,h5,h6,h7,hC⟩:=hI
    simp [Region.binds] at hdep
    obtain rfl:=h1 (by first | exact hdep | exact hdep.1 | exact hdep.2 | exact hdep.2.1 | exact hdep.2.2 | exact hdep.2.2.1 | exact hdep.2.2.2 | simp_all)
    have hcx:=HCV.out wx (HB4.out.trans (hC.below (B:=s) (fun _ h=>h.elim) (by have:=HK0.out.lt;omega)))
    have H0':=hid h0;have H1':=hid h1;have H2':=hid h2;have H3':=hid h3;have H4':=hid h4;have H5':=hid h5;have H6':=hid h6;have H7':=hid h7;have HC':=hid hC;clear h0 h1 h2 h3 h4 h5 h6 h7 hC
    try simp only [Act.put,gD,gE,gF]
    go_wp2_with fail
    have h0:=H0'.out;have h1:=H1'.out;have h2:=H2'.out;have h3:=H3'.out;have h4:=H4'.out;have h5:=H5'.out;have h6:=H6'.out;have h7:=H7'.out;have hC:=HC'.out
    exact ⟨x0,_,_,x3,x4,x5,x6,x7,(by first | (simp only [Act.put,gD,gE,gF];done) | rfl),(fun h=>h0 (by simpa using h)),(fun _=>rfl),(fun _=>rfl),(fun h=>h3 (by simpa using h)),(fun h=>h4 (by simpa using h)),(fun h=>h5 (by simpa using h)),(fun h=>h6 (by simpa using h)),(fun h=>h7 (by simpa using h)),hC⟩
   ·skip
    obtain ⟨x0,x1,x2,x3,x4,x5,x6,x7,rfl,h0,h1,h2,h3,h4,h5,h6,h7,hC⟩:=hI
    have H0':=hid h0;have H1':=hid h1;have H2':=hid h2;have H3':=hid h3;have H4':=hid h4;have H5':=hid h5;have H6':=hid h6;have H7':=hid h7;have HC':=hid hC;clear h0 h1 h2 h3 h4 h5 h6 h7 hC
    try simp only [Act.put,gD,gE,gF]
    go_wp2_with fail
    have h0:=H0'.out;have h1:=H1'.out;have h2:=H2'.out;have h3:=H3'.out;have h4:=H4'.out;have h5:=H5'.out;have h6:=H6'.out;have h7:=H7'.out;have hC:=HC'.out
    exact ⟨x0,x1,x2,_,x4,x5,x6,x7,(by first | (simp only [Act.put,gD,gE,gF];done) | rfl),(fun h=>h0 (by simpa using h)),(fun h=>h1 (by simpa using h)),(fun h=>h2 (by simpa using h)),(fun _=>rfl),(fun h=>h4 (by simpa using h)),(fun h=>h5 (by simpa using h)),(fun h=>h6 (by simpa using h)),(fun h=>h7 (by simpa using h)),hC⟩
   ·skip
    obtain ⟨x0,x1,x2,x3,x4,x5,x6,x7,rfl,h0,h1,h2,h3,h4,h5,h6,h7,hC⟩:=hI
    simp [Region.binds] at hdep
    obtain rfl:=h3 (by first | exact hdep | exact hdep.1 | exact hdep.2 | exact hdep.2.1 | exact hdep.2.2 | exact hdep.2.2.1 | exact hdep.2.2.2 | simp_all)
    have t0:=(hC.blk HK1.out (fun h=>h)).cell 1
    simp only [gA,gB,gC] at t0
    have H0':=hid h0;have H1':=hid h1;have H2':=hid h2;have H3':=hid h3;have H4':=hid h4;have H5':=hid h5;have H6':=hid h6;have H7':=hid h7;have HC':=hid hC;clear h0 h1 h2 h3 h4 h5 h6 h7 hC
    try simp only [Act.put,gD,gE,gF]
    go_wp2_with fail
    have h0:=H0'.out;have h1:=H1'.out;have h2:=H2'.out;have h3:=H3'.out;have h4:=H4'.out;have h5:=H5'.out;have h6:=H6'.out;have h7:=H7'.out;have hC:=HC'.out
    exact ⟨x0,x1,x2,_,_,x5,x6,x7,(by first | (simp only [Act.put,gD,gE,gF];done) | rfl),(fun h=>h0 (by simpa using h)),(fun h=>h1 (by simpa using h)),(fun h=>h2 (by simpa using h)),(fun _=>rfl),(fun _=>rfl),(fun h=>h5 (by simpa using h)),(fun h=>h6 (by simpa using h)),(fun h=>h7 (by simpa using h)),hC⟩
   ·skip
    obtain ⟨x0,x1,x2,x3,x4,x5,x6,x7,rfl,h0,h1,h2,h3,h4,h5,h6,h7,hC⟩:=hI
    simp [Region.binds] at hdep
    obtain rfl:=h4 (by first | exact hdep | exact hdep.1 | exact hdep.2 | exact hdep.2.1 | exact hdep.2.2 | exact hdep.2.2.1 | exact hdep.2.2.2 | simp_all)
    have H0':=hid h0;have H1':=hid h1;have H2':=hid h2;have H3':=hid h3;have H4':=hid h4;have H5':=hid h5;have H6':=hid h6;have H7':=hid h7;have HC':=hid hC;clear h0 h1 h2 h3 h4 h5 h6 h7 hC
    try simp only [Act.put,gD,gE,gF]
    go_wp2_with (go_at_call 38;refine (HMO.out _).mono ?_;rintro e w' ⟨rfl,rfl⟩)
    have h0:=H0'.out;have h1:=H1'.out;have h2:=H2'.out;have h3:=H3'.out;have h4:=H4'.out;have h5:=H5'.out;have h6:=H6'.out;have h7:=H7'.out;have hC:=HC'.out
    exact ⟨x0,x1,x2,x3,_,_,x6,x7,(by first | (simp only [Act.put,gD,gE,gF];done) | rfl),(fun h=>h0 (by simpa using h)),(fun h=>h1 (by simpa using h)),(fun h=>h2 (by simpa using h)),(fun h=>h3 (by simpa using h)),(fun _=>rfl),(fun _=>rfl),(fun h=>h6 (by simpa using h)),(fun h=>h7 (by simpa using h)),hC⟩
   ·skip
    obtain ⟨x0,x1,x2,x3,x4,x5,x6,x7,rfl,h0,h1,h2,h3,h4,h5,h6,h7,hC⟩:=hI
    simp [Region.binds] at hdep
    obtain rfl:=h2 (by first | exact hdep | exact hdep.1 | exact hdep.2 | exact hdep.2.1 | exact hdep.2.2 | exact hdep.2.2.1 | exact hdep.2.2.2 | simp_all)
    obtain rfl:=h5 (by first | exact hdep | exact hdep.1 | exact hdep.2 | exact hdep.2.1 | exact hdep.2.2 | exact hdep.2.2.1 | exact hdep.2.2.2 | simp_all)
    have H0':=hid h0;have H1':=hid h1;have H2':=hid h2;have H3':=hid h3;have H4':=hid h4;have H5':=hid h5;have H6':=hid h6;have H7':=hid h7;have HC':=hid hC;clear h0 h1 h2 h3 h4 h5 h6 h7 hC
    try simp only [Act.put,gD,gE,gF]
    go_wp2_with (go_at_call 37;refine (HCH.out _).mono ?_;rintro e w' ⟨rfl,rfl⟩)
    have h0:=H0'.out;have h1:=H1'.out;have h2:=H2'.out;have h3:=H3'.out;have h4:=H4'.out;have h5:=H5'.out;have h6:=H6'.out;have h7:=H7'.out;have hC:=HC'.out
    exact ⟨x0,x1,_,x3,x4,_,_,x7,(by first | (simp only [Act.put,gD,gE,gF];done) | rfl),(fun h=>h0 (by simpa using h)),(fun h=>h1 (by simpa using h)),(fun _=>rfl),(fun h=>h3 (by simpa using h)),(fun h=>h4 (by simpa using h)),(fun _=>rfl),(fun _=>rfl),(fun h=>h7 (by simpa using h)),hC⟩
   ·skip
    obtain ⟨x0,x1,x2,x3,x4,x5,x6,x7,rfl,h0,h1,h2,h3,h4,h5,h6,h7,hC⟩:=hI
    simp [Region.binds] at hdep
    obtain rfl:=h6 (by first | exact hdep | exact hdep.1 | exact hdep.2 | exact hdep.2.1 | exact hdep.2.2 | exact hdep.2.2.1 | exact hdep.2.2.2 | simp_all)
    have H0':=hid h0;have H1':=hid h1;have H2':=hid h2;have H3':=hid h3;have H4':=hid h4;have H5':=hid h5;have H6':=hid h6;have H7':=hid h7;have HC':=hid hC;clear h0 h1 h2 h3 h4 h5 h6 h7 hC
    try simp only [Act.put,gD,gE,gF]
    go_wp2_with fail
    have h0:=H0'.out;have h1:=H1'.out;have h2:=H2'.out;have h3:=H3'.out;have h4:=H4'.out;have h5:=H5'.out;have h6:=H6'.out;have h7:=H7'.out;have hC:=HC'.out
    exact ⟨x0,x1,x2,x3,x4,x5,_,_,(by first | (simp only [Act.put,gD,gE,gF];done) | rfl),(fun h=>h0 (by simpa using h)),(fun h=>h1 (by simpa using h)),(fun h=>h2 (by simpa using h)),(fun h=>h3 (by simpa using h)),(fun h=>h4 (by simpa using h)),(fun h=>h5 (by simpa using h)),(fun _=>rfl),(fun _=>rfl),hC⟩
  ·intro f a' wx hall hI
   obtain ⟨x0,x1,x2,x3,x4,x5,x6,x7,rfl,h0,h1,h2,h3,h4,h5,h6,h7,hC⟩:=hI
   obtain rfl:=h0 (hall 0 (by simp))
   obtain rfl:=h1 (hall 1 (by simp))
   obtain rfl:=h2 (hall 2 (by simp))
   obtain rfl:=h3 (hall 3 (by simp))
   obtain rfl:=h4 (hall 4 (by simp))
   obtain rfl:=h5 (hall 5 (by simp))
   obtain rfl:=h6 (hall 6 (by simp))
   obtain rfl:=h7 (hall 7 (by simp))
   clear h0 h1 h2 h3 h4 h5 h6 h7 hall f
   try simp only [Act.put,gD,gE,gF]
   have hb9:=HB4.out.trans (hC.below (B:=s) (fun _ h=>h.elim) (by have:=HK0.out.lt;omega))
   have hcx:=HCV.out wx hb9
   have k0:=hC.blk HK0.out (fun h=>h)
   have k1:=hC.blk HK1.out (fun h=>h)
   have k2:=hC.blk HK2.out (fun h=>h)
   have k3:=hC.blk HK3.out (fun h=>h)
   have l0:=k0.lt
   have l3:=k3.lt
   have a0:=k0.cell 0;have a1:=k0.cell 1;have a2:=k0.cell 2;have a3:=k0.cell 3;have a4:=k0.cell 4;have a5:=k0.cell 5;have a6:=k0.cell 6;have a7:=k0.cell 7;have a8:=k0.cell 8;have a9:=k0.cell 9
   have f0:=k0.frozen 0;have f1:=k0.frozen 1;have f2:=k0.frozen 2;have f3:=k0.frozen 3;have f4:=k0.frozen 4;have f5:=k0.frozen 5;have f6:=k0.frozen 6;have f7:=k0.frozen 7;have f8:=k0.frozen 8;have f9:=k0.frozen 9
   have b0:=k3.cell 0;have b1:=k3.cell 1;have b2:=k3.cell 2;have b3:=k3.cell 3;have b4:=k3.cell 4;have b5:=k3.cell 5;have b6:=k3.cell 6;have b7:=k3.cell 7;have b8:=k3.cell 8;have b9:=k3.cell 9
   have g0:=k3.frozen 0;have g1:=k3.frozen 1;have g2:=k3.frozen 2;have g3:=k3.frozen 3;have g4:=k3.frozen 4;have g5:=k3.frozen 5;have g6:=k3.frozen 6;have g7:=k3.frozen 7;have g8:=k3.frozen 8;have g9:=k3.frozen 9
   have x2:=k1.cell 2
   have y3:=k2.cell 3
   simp only [gA,gB,gC] at a0 b0 a1 b1 a2 b2 a3 b3 a4 b4 a5 b5 a6 b6 a7 b7 a8 b8 a9 b9 x2 y3
   have HB9:=hid hb9
   have H0:=hid k0
   have H3:=hid k3
   clear k0 k1 k2 k3 hb9 hC HK0 HK1 HK2 HK3 HB4
   go_wp2_with fail
   obtain ⟨h5,hc5⟩:=mstore H3.out (.int .u8 0) (.int .u64 0) (.int .u64 0) (.int .u64 0) (.int .u64 0) (.int .u64 0) (.int .u64 0) (.string ⟨#[]⟩) (.string ⟨#[]⟩) (.slice none 0 0)
   have hbR:=HB9.out.trans (hc5.below (B:=s) (fun x hx=>by omega) (by omega))
   have r0:=h5.cell 0;have r1:=h5.cell 1;have r2:=h5.cell 2;have r3:=h5.cell 3;have r4:=h5.cell 4;have r5:=h5.cell 5;have r6:=h5.cell 6;have r7:=h5.cell 7;have r8:=h5.cell 8;have r9:=h5.cell 9
   simp only [gA,gB,gC] at r0 r1 r2 r3 r4 r5 r6 r7 r8 r9
   refine bodyPost_ret (v:=.tuple #[.agg #[.int .u8 0,.int .u64 0,.int .u64 0,.int .u64 0,.int .u64 0,.int .u64 0,.int .u64 0,.string ⟨#[]⟩,.string ⟨#[]⟩,.slice none 0 0],.int .i64 E]) (by simp [results,Tryz.results24,go_sem,r0,r1,r2,r3,r4,r5,r6,r7,r8,r9]) rfl ⟨by rw [<-HU.out];rfl,hbR⟩
end Go.Proofs.YtpmfdlghckfgiaaGreat
