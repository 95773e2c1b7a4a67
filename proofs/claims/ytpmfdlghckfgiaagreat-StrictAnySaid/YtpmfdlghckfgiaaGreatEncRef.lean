/- The document's Field. -/
import Derived.Test.YtpmfdlghckfgiaaGreatEn2
import Derived.Test.YtpmfdlghckfgiaaGreatV4
import Derived.Test.YtpmfdlghckfgiaaGreatG12
import Derived.Test.YtpmfdlghckfgiaaGreatG0
set_option linter.unusedVariables false
set_option maxRecDepth 100000
set_option maxHeartbeats 16000000
namespace Go.Proofs.YtpmfdlghckfgiaaGreat
open Go.RowKit
def ConvS (w:World) (A:Option Addr) (c:Nat) (qs:ByteArray):Prop:=Sl w A c (qs.data.toList.map bv)/\U8 w A
theorem ConvS.below {w w':World} {A:Option Addr} {c:Nat} {qs:ByteArray} (h:ConvS w A c qs) (hb:Below w.heap.size w w'):ConvS w' A c qs:=by
 refine ⟨h.1.below hb,?_⟩
 obtain ⟨g,cs,k,rfl,hg⟩:=h.2
 exact ⟨g,cs,k,rfl,(hb.block g (Array.getElem?_eq_some_iff.1 hg).1).trans hg⟩
theorem ConvS.chg {w w':World} {A:Option Addr} {c q:Nat} {qs:ByteArray} {t:TypeId} {cs:Array Value} (h:ConvS w A c qs) (hb:Blk w q t cs) (ht:t ≠ 5) (hc:Chg (fun k=>k=q) w w'):ConvS w' A c qs:=by
 have hu:=h.2
 obtain ⟨g,cs1,k,rfl,hg⟩:=h.2
 have hne:=U8.ne_blk hu hb ht
 refine ⟨hc.sl h.1 (n:=(qs.data.toList.map bv).length) (fun _ b o he hS=>?_) rfl,hu.chg hc (fun g2 he hS=>?_)⟩
 ·injection he with he
  injection he with he1
  omega
 ·injection he with he
  injection he with he1
  omega
theorem fstep {w:World} {g:Nat} {y0 y1 y2 y3 y4:Value} (h:Blk w g 61 #[y0,y1,y2,y3,y4]) (x0 x1 x2 x3 x4:Value):Blk (((((w.setCell ⟨g,0,none⟩ x0).setCell ⟨g,1,none⟩ x1).setCell ⟨g,2,none⟩ x2).setCell ⟨g,3,none⟩ x3).setCell ⟨g,4,none⟩ x4) g 61 #[x0,x1,x2,x3,x4]/\Chg (fun k=>k=g) w (((((w.setCell ⟨g,0,none⟩ x0).setCell ⟨g,1,none⟩ x1).setCell ⟨g,2,none⟩ x2).setCell ⟨g,3,none⟩ x3).setCell ⟨g,4,none⟩ x4):=by
 refine ⟨by simpa using ((((h.set_ 0 x0).set_ 1 x1).set_ 2 x2).set_ 3 x3).set_ 4 x4,?_⟩
 exact (((((Chg.refl (fun k=>k=g) w).set_ (.inl rfl) 0 x0).set_ (.inl rfl) 1 x1).set_ (.inl rfl) 2 x2).set_ (.inl rfl) 3 x3).set_ (.inl rfl) 4 x4
theorem zig_nat (n:Int) (h1 : -9223372036854775808<=n) (h2:n<=9223372036854775807):∃ q:Nat,zig n=(q:Int)/\q<=18446744073709551615:=by
 have hz:=zig_range n h1 h2
 exact ⟨(zig n).toNat,by omega,by omega⟩
theorem wireD_cases (t:Int):wireD t=0\/wireD t=1\/wireD t=2\/wireD t=5:=by
 unfold wireD
 split
 ·exact .inl rfl
 split
 ·exact .inr (.inr (.inr rfl))
 split
 ·exact .inr (.inl rfl)
 ·exact .inr (.inr (.inl rfl))
theorem fv_one (num:Int) (wd qn:Nat) (qs:ByteArray) (A:Option Addr) (c:Nat) (w:World) (h1:1<=num) (h2:num<=536870911) (hw:wd=0\/wd=1\/wd=2\/wd=5) (hq:qn<=18446744073709551615) (hl:qs.data.toList.length<=8000) (hc:ConvS w A c qs) :
  Calls Tryz.prog 44 #[.agg #[.int .i64 num,.int .u8 (wd:Int),.int .u64 (qn:Int),.slice A qs.size c,.int .i64 0]] w fun e w'=>∃ A' c',e=.returned (.slice A' (wB (num,(wd:Int),qn,qs.data.toList)).length c')/\Sl w' A' c' ((wB (num,(wd:Int),qn,qs.data.toList)).map bv)/\Below w.heap.size w w':=by
 have hwb:wireB (wd:Int)=true:=by rcases hw with e | e | e | e <;> rw [e] <;> rfl
 have he:pErrF ⟨num,(wd:Int),qn,⟨A,c,qs.data.toList⟩,0⟩=0:=by
  unfold pErrF pErr
  rw [mk_ok h1 h2 hwb,if_neg (by simp),if_neg (by simp only [];omega)]
 have h:=rfb_any ⟨num,(wd:Int),qn,⟨A,c,qs.data.toList⟩,0⟩ w ⟨by dsimp only;omega,by dsimp only;omega,hq,by dsimp only;omega,by dsimp only;omega,by dsimp only;omega,by dsimp only;omega,hc.1⟩ he (by dsimp only;omega)
 have e1:(fvC ⟨num,(wd:Int),qn,⟨A,c,qs.data.toList⟩,0⟩).toArray=#[.int .i64 num,.int .u8 (wd:Int),.int .u64 (qn:Int),.slice A qs.size c,.int .i64 0]:=by
  unfold fvC
  have:qs.data.toList.length=qs.size:=by simp
  simp only [this]
 rw [e1] at h
 exact h
theorem wB_len8 (num:Int) (wd qn:Nat) (xs:List UInt8) (hw:wd=0\/wd=1\/wd=2\/wd=5) (hq:qn<=18446744073709551615) (hl:xs.length<=8000):(wB (num,(wd:Int),qn,xs)).length<=8100 :=
 pBF_len8 ⟨num,(wd:Int),qn,⟨none,0,xs⟩,0⟩ hq (by dsimp only;omega) (by dsimp only;omega) hl
structure PlF (m:MV) (num t i:Int):Prop where
 n:plN m t i<=18446744073709551615
 s:(plS m t i).data.toList.length<=8000
 one:t ≠ 10->t ≠ 3->1<=t->t<=10->partW m num t i=[(num,((wireD t:Nat):Int),plN m t i,(plS m t i).data.toList)]
 zig:t=3->partW m num t i=[(num,0,(zig (wrap64 (plN m t i:Nat))).toNat,(plS m t i).data.toList)]
 lst:t=10->partW m num t i=m.l.map (fun s=>(num,2,0,s.data.toList))/\plN m t i=0/\plV m t=.slice m.A m.l.length m.c
theorem pl_facts (m:MV) (num t i:Int) {w:World} (hok:MvOk w m) (hsm:MvSm m):PlF m num t i:=by
 have he:((⟨#[]⟩:ByteArray).data.toList)=[]:=rfl
 refine ⟨?_,?_,?_,?_,?_⟩
 ·unfold plN;split
  ·exact hok.n i
  ·omega
 ·unfold plS;split
  ·have:=hsm.s i;simpa using this
  ·simp
 ·intro h1 h2 h3 h4
  unfold partW plN plS
  rw [if_neg h1]
  by_cases hx:7<=t/\t<=9
  ·rw [if_pos hx,if_pos hx,if_neg (by omega)]
   have:wireD t=2:=by unfold wireD;rw [if_neg (by omega),if_neg (by omega),if_neg (by omega)]
   rw [this];rfl
  ·rw [if_neg hx,if_neg hx,if_neg h2,if_pos (by omega),he]
   have:wireN t=wireD t:=by
    unfold wireN wireD
    by_cases c5:t=5
    ·subst c5;rfl
    by_cases c6:t=6
    ·subst c6;rfl
    rw [if_neg c5,if_neg c6,if_neg (by omega),if_pos (by omega)]
   rw [this]
 ·rintro rfl
  rfl
 ·rintro rfl
  exact ⟨rfl,rfl,rfl⟩
def R4 (s:Nat) (num t:Int) (wd qn:Nat) (qs:ByteArray) (a0:Act) (w0:World) (f:Nat->Bool) (a:Act) (w:World):Prop:=∃ x0 x1 x2 x3 x4 x5 x6 x7 x8 x9:Value,a=((((((((((a0.put (some 31) x0).put (some 32) x1).put (some 33) x2).put (some 34) x3).put (some 35) x4).put (some 36) x5).put (some 37) x6).put (some 38) x7).put (some 39) x8).put (some 8) x9)/\(f 0=true->x0=.pointer (some ⟨s+1,0,none⟩))/\(f 1=true->x1=.int .i64 num)/\(f 2=true->x2=.pointer (some ⟨s+1,1,none⟩))/\(f 3=true->x3=.int .i64 t)/\(f 4=true->x4=.int .u8 (wd:Int))/\(f 5=true->x5=.int .u64 (qn:Int))/\(f 6=true->x6=.string qs)/\(f 7=true->∃ A c,x7=.slice A qs.size c/\ConvS w A c qs)/\(f 8=true->∃ A c,x8=.agg #[.int .i64 num,.int .u8 (wd:Int),.int .u64 (qn:Int),.slice A qs.size c,.int .i64 0]/\ConvS w A c qs)/\(f 9=true->∃ g,x9=.pointer (some ⟨g,0,none⟩)/\w0.heap.size<=g/\(f 10=false->Blk w g 61 #[.int .i64 0,.int .u8 0,.int .u64 0,.slice none 0 0,.int .i64 0])/\(f 10=true->∃ A c,Blk w g 61 #[.int .i64 num,.int .u8 (wd:Int),.int .u64 (qn:Int),.slice A qs.size c,.int .i64 0]/\ConvS w A c qs))/\(f 10=true->f 9=true)/\Below w0.heap.size w0 w
theorem r10field_any (m:MV) (num t i:Int) (w:World) (hok:MvOk w m) (hsm:MvSm m) (hn1 : -9223372036854775808<=num) (hn2:num<=9223372036854775807) :
  Calls Tryz.prog 27 #[mvV m,.agg #[.int .i64 num,.int .i64 t,.int .i64 i]] w fun e w'=>∃ A c,e=.returned (.slice A (fldB m num t i).length c)/\Sl w' A c ((fldB m num t i).map bv)/\Below w.heap.size w w':=by
 obtain ⟨R,hR⟩:∃ R:Ending->World->Prop,R=fun e w'=>∃ A c,e=.returned (.slice A (fldB m num t i).length c)/\Sl w' A c ((fldB m num t i).map bv)/\Below w.heap.size w w':=⟨_,rfl⟩
 rw [<-hR]
 have HR:=hid hR
 clear hR
 have hvd:=fun W=>rdef_any m num t i W
 have hpl:=fun W=>rplace_any m num t i W
 have hfi:=fun hd=>fldB_in (m:=m) (num:=num) (t:=t) (i:=i) hd hsm
 have hfo:=fldB_out (m:=m) (num:=num) (t:=t) (i:=i) hsm
 have hwi:=fun W=>rwire_any t W
 have hdc:=fun hd=>dfl_cases (m:=m) (t:=t) (i:=i) hd
 obtain ⟨hpn,hps,hone,hzig,hlst⟩:=pl_facts m num t i hok hsm
 have hfz:dflB m t i=true->fldB m num t i=[]:=fun h=>by unfold fldB;rw [h];rfl
 generalize fldB m num t i=fb at *
 generalize partW m num t i=pw at *
 have hsl:=hok.l
 have hes:=hok.e
 have hwc:=wireD_cases t
 have hw10:t=10->wireD t=2:=fun h=>by subst h;rfl
 have hw3:t=3->wireD t=0:=fun h=>by subst h;rfl
 have hnl:=hsm.l
 have hlr:m.l.reverse.length=m.l.length:=List.length_reverse
 have hel:=hsm.e
 generalize plN m t i=qn at *
 generalize plS m t i=qs at *
 generalize plV m t=qv at *
 generalize dflB m t i=db at *
 generalize wireD t=wd at *
 clear hok hsm
 unfold mvV mvA at *
 generalize m.l.length=len at *
 obtain ⟨s,hws⟩:∃ s,w.heap.size=s:=⟨_,rfl⟩
 have hbx:=bx2 w s len m num t i hws
 rw [hws] at HR
 have HVD:=hid hvd
 have HPL:=hid hpl
 have HFI:=hid hfi
 have HFO:=hid hfo
 have HWI:=hid hwi
 have HDC:=hid hdc
 have HPN:=hid hpn
 have HW3:=hid hw3
 have HW10:=hid hw10
 have HPS:=hid hps
 have HONE:=hid hone
 have HZIG:=hid hzig
 have HLST:=hid hlst
 have HFZ:=hid hfz
 clear hw3 hw10 hvd hpl hfi hfo hwi hdc hpn hps hone hzig hlst hfz
 obtain ⟨W,hW⟩:∃ W,(w.alloc (.cells #[.int .u8 (m.k:Int),.int .u64 (m.n0:Int),.int .u64 (m.n1:Int),.int .u64 (m.n2:Int),.int .u64 (m.n3:Int),.int .u64 (m.n4:Int),.int .u64 (m.n5:Int),.string m.s0,.string m.s1,.slice m.A len m.c] 29)).alloc (.cells #[.int .i64 num,.int .i64 t,.int .i64 i] 57)=W:=⟨_,rfl⟩
 rw [hW] at hbx
 have HBX:=hid hbx
 clear hbx
 have x0:=HBX.out.b0
 have x1:=HBX.out.b1
 have c0:=x0.cell 0
 have c1:=x0.cell 1
 have c2:=x0.cell 2
 have c3:=x0.cell 3
 have c4:=x0.cell 4
 have c5:=x0.cell 5
 have c6:=x0.cell 6
 have c7:=x0.cell 7
 have c8:=x0.cell 8
 have c9:=x0.cell 9
 have d0:=x1.cell 0
 have d1:=x1.cell 1
 have d2:=x1.cell 2
 simp only [gA,gB,gC] at c0 c1 c2 c3 c4 c5 c6 c7 c8 c9 d0 d1 d2
 clear x0 x1
 go_enter Tryz.func27,Tryz.ntmps27
 go_wp2_with fail
 clear hW
 refine (HVD.out W).mono ?_
 rintro e w1 ⟨rfl,hb1⟩
 clear c0 c1 c2 c3 c4 c5 c6 c7 c8 c9 d0 d1 d2
 have hlt:=HBX.out.b1.lt
 have hk1:=HBX.out.b0.below hb1 (by omega)
 have hj1:=HBX.out.b1.below hb1 (by omega)
 have hB1:=HBX.out.bel.trans (hb1.mono (by omega))
 have c0:=hk1.cell 0
 have c1:=hk1.cell 1
 have c2:=hk1.cell 2
 have c3:=hk1.cell 3
 have c4:=hk1.cell 4
 have c5:=hk1.cell 5
 have c6:=hk1.cell 6
 have c7:=hk1.cell 7
 have c8:=hk1.cell 8
 have c9:=hk1.cell 9
 have d0:=hj1.cell 0
 have d1:=hj1.cell 1
 have d2:=hj1.cell 2
 simp only [gA,gB,gC] at c0 c1 c2 c3 c4 c5 c6 c7 c8 c9 d0 d1 d2
 have HB1:=hid hB1
 have hl1:=hj1.lt
 clear hk1 hj1 hb1 hB1
 cases db with
 | true =>
  have HFZT:=hid (HFZ.out rfl)
  clear HFZ HFI HFO HDC HPN HPS HONE HZIG HLST
  go_wp2_with fail
  rw [HR.out]
  exact ⟨none,0,by rw [HFZT.out];rfl,by rw [HFZT.out];exact Sl.nil_ _,HB1.out⟩
 | false =>
  have HFIT:=hid (HFI.out rfl)
  have HDCT:=hid (HDC.out rfl)
  clear HFI HFZ HDC
  by_cases hlo:num < 1
  ·have HFO2:=hid (HFO.out (.inl hlo))
   clear HFO
   go_wp2_with fail
   rw [HR.out]
   exact ⟨none,0,by rw [HFO2.out];rfl,by rw [HFO2.out];exact Sl.nil_ _,HB1.out⟩
  by_cases hhi:536870911 < num
  ·have HFO2:=hid (HFO.out (.inr hhi))
   clear HFO
   go_wp2_with fail
   rw [HR.out]
   exact ⟨none,0,by rw [HFO2.out];rfl,by rw [HFO2.out];exact Sl.nil_ _,HB1.out⟩
  clear HFO
  go_wp2_with fail
  refine (HPL.out _).mono ?_
  rintro e w2 ⟨rfl,hb2⟩
  have HB2:=hid (HB1.out.trans (hb2.mono (by omega)))
  have d0':=(hb2.cell (p:=⟨s+1,0,none⟩) hl1).trans d0
  have d1':=(hb2.cell (p:=⟨s+1,1,none⟩) hl1).trans d1
  have d2':=(hb2.cell (p:=⟨s+1,2,none⟩) hl1).trans d2
  have HT:=hid (And.intro d0' (And.intro d1' d2'))
  have hl2:s+1 < w2.heap.size:=Nat.lt_of_lt_of_le hl1 hb2.size
  clear hb2 c0 c1 c2 c3 c4 c5 c6 c7 c8 c9 d0 d1 d2 d0' d1' d2'
  go_wp2_with fail
  refine wp_region_inv (by kernel_rfl) (by kernel_rfl) (R4 s num t wd qn qs) ?_ ?_ ?_
  ·exact ⟨undef,undef,undef,undef,undef,undef,undef,undef,undef,undef,(by simp only [Act.put,gD,gE,gF]),by simp,by simp,by simp,by simp,by simp,by simp,by simp,by simp,by simp,by simp,by simp,⟨rfl,rfl,rfl,Nat.le_refl _,fun _ _=>rfl⟩⟩
  ·intro f a' wr i o ho hf hdep hI
   have hi:i < 11:=(Array.getElem?_eq_some_iff.1 ho).1
   have hcase:i=0\/i=1\/i=2\/i=3\/i=4\/i=5\/i=6\/i=7\/i=8\/i=9\/i=10:=by omega
   clear hi
   rcases hcase with rfl | rfl | rfl | rfl | rfl | rfl | rfl | rfl | rfl | rfl | rfl
   all_goals
    simp only [gA,gB,gC,Option.some.injEq] at ho
    subst ho
   ·skip
    obtain ⟨x0,x1,x2,x3,x4,x5,x6,x7,x8,x9,rfl,h0,h1,h2,h3,h4,h5,h6,h7,h8,h9,h10,hB⟩:=hI
    have H0:=hid h0;have H1:=hid h1;have H2:=hid h2;have H3:=hid h3;have H4:=hid h4;have H5:=hid h5;have H6:=hid h6;have H7:=hid h7;have H8:=hid h8;have H9:=hid h9;have H10:=hid h10;have HBB:=hid hB
    clear h0 h1 h2 h3 h4 h5 h6 h7 h8 h9 h10 hB
    simp only [Act.put,gD,gE,gF]
    go_wp2_with fail
    have h0:=H0.out;have h1:=H1.out;have h2:=H2.out;have h3:=H3.out;have h4:=H4.out;have h5:=H5.out;have h6:=H6.out;have h7:=H7.out;have h8:=H8.out;have h9:=H9.out;have h10:=H10.out;have hB:=HBB.out
    exact ⟨_,x1,x2,x3,x4,x5,x6,x7,x8,x9,(by simp only [Act.put,gD,gE,gF]),fun _=>rfl,(fun h=>h1 (by simpa using h)),(fun h=>h2 (by simpa using h)),(fun h=>h3 (by simpa using h)),(fun h=>h4 (by simpa using h)),(fun h=>h5 (by simpa using h)),(fun h=>h6 (by simpa using h)),(fun h=>by obtain ⟨A,c,e,hc⟩:=h7 (by simpa using h);exact ⟨A,c,e,hc.below (Below.refl _ _)⟩),(fun h=>by obtain ⟨A,c,e,hc⟩:=h8 (by simpa using h);exact ⟨A,c,e,hc.below (Below.refl _ _)⟩),(fun h=>by obtain ⟨g,e,hg,k1,k2⟩:=h9 (by simpa using h);exact ⟨g,e,hg,fun h=>(k1 (by simpa using h)).below (Below.refl _ _) (k1 (by simpa using h)).lt,fun h=>by obtain ⟨A,c,hk,hc⟩:=k2 (by simpa using h);exact ⟨A,c,hk.below (Below.refl _ _) hk.lt,hc.below (Below.refl _ _)⟩⟩),(fun h=>by have:=h10 (by simpa using h);simpa using this),hB⟩
   ·skip
    obtain ⟨x0,x1,x2,x3,x4,x5,x6,x7,x8,x9,rfl,h0,h1,h2,h3,h4,h5,h6,h7,h8,h9,h10,hB⟩:=hI
    simp [Region.binds] at hdep
    obtain rfl:=h0 (by first | exact hdep | exact hdep.1 | exact hdep.2 | exact hdep.2.1 | exact hdep.2.2 | exact hdep.2.2.1 | exact hdep.2.2.2 | simp_all)
    have d0':=(hB.cell (p:=⟨s+1,0,none⟩) hl2).trans HT.out.1
    have d1':=(hB.cell (p:=⟨s+1,1,none⟩) hl2).trans HT.out.2.1
    have H0:=hid h0;have H1:=hid h1;have H2:=hid h2;have H3:=hid h3;have H4:=hid h4;have H5:=hid h5;have H6:=hid h6;have H7:=hid h7;have H8:=hid h8;have H9:=hid h9;have H10:=hid h10;have HBB:=hid hB
    clear h0 h1 h2 h3 h4 h5 h6 h7 h8 h9 h10 hB
    simp only [Act.put,gD,gE,gF]
    go_wp2_with fail
    have h0:=H0.out;have h1:=H1.out;have h2:=H2.out;have h3:=H3.out;have h4:=H4.out;have h5:=H5.out;have h6:=H6.out;have h7:=H7.out;have h8:=H8.out;have h9:=H9.out;have h10:=H10.out;have hB:=HBB.out
    exact ⟨_,_,x2,x3,x4,x5,x6,x7,x8,x9,(by simp only [Act.put,gD,gE,gF]),(fun _=>rfl),fun _=>rfl,(fun h=>h2 (by simpa using h)),(fun h=>h3 (by simpa using h)),(fun h=>h4 (by simpa using h)),(fun h=>h5 (by simpa using h)),(fun h=>h6 (by simpa using h)),(fun h=>by obtain ⟨A,c,e,hc⟩:=h7 (by simpa using h);exact ⟨A,c,e,hc.below (Below.refl _ _)⟩),(fun h=>by obtain ⟨A,c,e,hc⟩:=h8 (by simpa using h);exact ⟨A,c,e,hc.below (Below.refl _ _)⟩),(fun h=>by obtain ⟨g,e,hg,k1,k2⟩:=h9 (by simpa using h);exact ⟨g,e,hg,fun h=>(k1 (by simpa using h)).below (Below.refl _ _) (k1 (by simpa using h)).lt,fun h=>by obtain ⟨A,c,hk,hc⟩:=k2 (by simpa using h);exact ⟨A,c,hk.below (Below.refl _ _) hk.lt,hc.below (Below.refl _ _)⟩⟩),(fun h=>by have:=h10 (by simpa using h);simpa using this),hB⟩
   ·skip
    obtain ⟨x0,x1,x2,x3,x4,x5,x6,x7,x8,x9,rfl,h0,h1,h2,h3,h4,h5,h6,h7,h8,h9,h10,hB⟩:=hI
    have H0:=hid h0;have H1:=hid h1;have H2:=hid h2;have H3:=hid h3;have H4:=hid h4;have H5:=hid h5;have H6:=hid h6;have H7:=hid h7;have H8:=hid h8;have H9:=hid h9;have H10:=hid h10;have HBB:=hid hB
    clear h0 h1 h2 h3 h4 h5 h6 h7 h8 h9 h10 hB
    simp only [Act.put,gD,gE,gF]
    go_wp2_with fail
    have h0:=H0.out;have h1:=H1.out;have h2:=H2.out;have h3:=H3.out;have h4:=H4.out;have h5:=H5.out;have h6:=H6.out;have h7:=H7.out;have h8:=H8.out;have h9:=H9.out;have h10:=H10.out;have hB:=HBB.out
    exact ⟨x0,x1,_,x3,x4,x5,x6,x7,x8,x9,(by simp only [Act.put,gD,gE,gF]),(fun h=>h0 (by simpa using h)),(fun h=>h1 (by simpa using h)),fun _=>rfl,(fun h=>h3 (by simpa using h)),(fun h=>h4 (by simpa using h)),(fun h=>h5 (by simpa using h)),(fun h=>h6 (by simpa using h)),(fun h=>by obtain ⟨A,c,e,hc⟩:=h7 (by simpa using h);exact ⟨A,c,e,hc.below (Below.refl _ _)⟩),(fun h=>by obtain ⟨A,c,e,hc⟩:=h8 (by simpa using h);exact ⟨A,c,e,hc.below (Below.refl _ _)⟩),(fun h=>by obtain ⟨g,e,hg,k1,k2⟩:=h9 (by simpa using h);exact ⟨g,e,hg,fun h=>(k1 (by simpa using h)).below (Below.refl _ _) (k1 (by simpa using h)).lt,fun h=>by obtain ⟨A,c,hk,hc⟩:=k2 (by simpa using h);exact ⟨A,c,hk.below (Below.refl _ _) hk.lt,hc.below (Below.refl _ _)⟩⟩),(fun h=>by have:=h10 (by simpa using h);simpa using this),hB⟩
   ·skip
    obtain ⟨x0,x1,x2,x3,x4,x5,x6,x7,x8,x9,rfl,h0,h1,h2,h3,h4,h5,h6,h7,h8,h9,h10,hB⟩:=hI
    simp [Region.binds] at hdep
    obtain rfl:=h2 (by first | exact hdep | exact hdep.1 | exact hdep.2 | exact hdep.2.1 | exact hdep.2.2 | exact hdep.2.2.1 | exact hdep.2.2.2 | simp_all)
    have d0':=(hB.cell (p:=⟨s+1,0,none⟩) hl2).trans HT.out.1
    have d1':=(hB.cell (p:=⟨s+1,1,none⟩) hl2).trans HT.out.2.1
    have H0:=hid h0;have H1:=hid h1;have H2:=hid h2;have H3:=hid h3;have H4:=hid h4;have H5:=hid h5;have H6:=hid h6;have H7:=hid h7;have H8:=hid h8;have H9:=hid h9;have H10:=hid h10;have HBB:=hid hB
    clear h0 h1 h2 h3 h4 h5 h6 h7 h8 h9 h10 hB
    simp only [Act.put,gD,gE,gF]
    go_wp2_with fail
    have h0:=H0.out;have h1:=H1.out;have h2:=H2.out;have h3:=H3.out;have h4:=H4.out;have h5:=H5.out;have h6:=H6.out;have h7:=H7.out;have h8:=H8.out;have h9:=H9.out;have h10:=H10.out;have hB:=HBB.out
    exact ⟨x0,x1,_,_,x4,x5,x6,x7,x8,x9,(by simp only [Act.put,gD,gE,gF]),(fun h=>h0 (by simpa using h)),(fun h=>h1 (by simpa using h)),(fun _=>rfl),fun _=>rfl,(fun h=>h4 (by simpa using h)),(fun h=>h5 (by simpa using h)),(fun h=>h6 (by simpa using h)),(fun h=>by obtain ⟨A,c,e,hc⟩:=h7 (by simpa using h);exact ⟨A,c,e,hc.below (Below.refl _ _)⟩),(fun h=>by obtain ⟨A,c,e,hc⟩:=h8 (by simpa using h);exact ⟨A,c,e,hc.below (Below.refl _ _)⟩),(fun h=>by obtain ⟨g,e,hg,k1,k2⟩:=h9 (by simpa using h);exact ⟨g,e,hg,fun h=>(k1 (by simpa using h)).below (Below.refl _ _) (k1 (by simpa using h)).lt,fun h=>by obtain ⟨A,c,hk,hc⟩:=k2 (by simpa using h);exact ⟨A,c,hk.below (Below.refl _ _) hk.lt,hc.below (Below.refl _ _)⟩⟩),(fun h=>by have:=h10 (by simpa using h);simpa using this),hB⟩
   ·skip
    obtain ⟨x0,x1,x2,x3,x4,x5,x6,x7,x8,x9,rfl,h0,h1,h2,h3,h4,h5,h6,h7,h8,h9,h10,hB⟩:=hI
    simp [Region.binds] at hdep
    obtain rfl:=h3 (by first | exact hdep | exact hdep.1 | exact hdep.2 | exact hdep.2.1 | exact hdep.2.2 | exact hdep.2.2.1 | exact hdep.2.2.2 | simp_all)
    have H0:=hid h0;have H1:=hid h1;have H2:=hid h2;have H3:=hid h3;have H4:=hid h4;have H5:=hid h5;have H6:=hid h6;have H7:=hid h7;have H8:=hid h8;have H9:=hid h9;have H10:=hid h10;have HBB:=hid hB
    clear h0 h1 h2 h3 h4 h5 h6 h7 h8 h9 h10 hB
    simp only [Act.put,gD,gE,gF]
    go_wp2_with fail
    refine (HWI.out _).mono ?_
    rintro e w4 ⟨rfl,rfl⟩
    go_wp2_with fail
    have h0:=H0.out;have h1:=H1.out;have h2:=H2.out;have h3:=H3.out;have h4:=H4.out;have h5:=H5.out;have h6:=H6.out;have h7:=H7.out;have h8:=H8.out;have h9:=H9.out;have h10:=H10.out;have hB:=HBB.out
    exact ⟨x0,x1,x2,_,_,x5,x6,x7,x8,x9,(by simp only [Act.put,gD,gE,gF]),(fun h=>h0 (by simpa using h)),(fun h=>h1 (by simpa using h)),(fun h=>h2 (by simpa using h)),(fun _=>rfl),fun _=>rfl,(fun h=>h5 (by simpa using h)),(fun h=>h6 (by simpa using h)),(fun h=>by obtain ⟨A,c,e,hc⟩:=h7 (by simpa using h);exact ⟨A,c,e,hc.below (Below.refl _ _)⟩),(fun h=>by obtain ⟨A,c,e,hc⟩:=h8 (by simpa using h);exact ⟨A,c,e,hc.below (Below.refl _ _)⟩),(fun h=>by obtain ⟨g,e,hg,k1,k2⟩:=h9 (by simpa using h);exact ⟨g,e,hg,fun h=>(k1 (by simpa using h)).below (Below.refl _ _) (k1 (by simpa using h)).lt,fun h=>by obtain ⟨A,c,hk,hc⟩:=k2 (by simpa using h);exact ⟨A,c,hk.below (Below.refl _ _) hk.lt,hc.below (Below.refl _ _)⟩⟩),(fun h=>by have:=h10 (by simpa using h);simpa using this),hB⟩
   ·skip
    obtain ⟨x0,x1,x2,x3,x4,x5,x6,x7,x8,x9,rfl,h0,h1,h2,h3,h4,h5,h6,h7,h8,h9,h10,hB⟩:=hI
    have H0:=hid h0;have H1:=hid h1;have H2:=hid h2;have H3:=hid h3;have H4:=hid h4;have H5:=hid h5;have H6:=hid h6;have H7:=hid h7;have H8:=hid h8;have H9:=hid h9;have H10:=hid h10;have HBB:=hid hB
    clear h0 h1 h2 h3 h4 h5 h6 h7 h8 h9 h10 hB
    simp only [Act.put,gD,gE,gF]
    go_wp2_with fail
    have h0:=H0.out;have h1:=H1.out;have h2:=H2.out;have h3:=H3.out;have h4:=H4.out;have h5:=H5.out;have h6:=H6.out;have h7:=H7.out;have h8:=H8.out;have h9:=H9.out;have h10:=H10.out;have hB:=HBB.out
    exact ⟨x0,x1,x2,x3,x4,_,x6,x7,x8,x9,(by simp only [Act.put,gD,gE,gF]),(fun h=>h0 (by simpa using h)),(fun h=>h1 (by simpa using h)),(fun h=>h2 (by simpa using h)),(fun h=>h3 (by simpa using h)),(fun h=>h4 (by simpa using h)),fun _=>rfl,(fun h=>h6 (by simpa using h)),(fun h=>by obtain ⟨A,c,e,hc⟩:=h7 (by simpa using h);exact ⟨A,c,e,hc.below (Below.refl _ _)⟩),(fun h=>by obtain ⟨A,c,e,hc⟩:=h8 (by simpa using h);exact ⟨A,c,e,hc.below (Below.refl _ _)⟩),(fun h=>by obtain ⟨g,e,hg,k1,k2⟩:=h9 (by simpa using h);exact ⟨g,e,hg,fun h=>(k1 (by simpa using h)).below (Below.refl _ _) (k1 (by simpa using h)).lt,fun h=>by obtain ⟨A,c,hk,hc⟩:=k2 (by simpa using h);exact ⟨A,c,hk.below (Below.refl _ _) hk.lt,hc.below (Below.refl _ _)⟩⟩),(fun h=>by have:=h10 (by simpa using h);simpa using this),hB⟩
   ·skip
    obtain ⟨x0,x1,x2,x3,x4,x5,x6,x7,x8,x9,rfl,h0,h1,h2,h3,h4,h5,h6,h7,h8,h9,h10,hB⟩:=hI
    have H0:=hid h0;have H1:=hid h1;have H2:=hid h2;have H3:=hid h3;have H4:=hid h4;have H5:=hid h5;have H6:=hid h6;have H7:=hid h7;have H8:=hid h8;have H9:=hid h9;have H10:=hid h10;have HBB:=hid hB
    clear h0 h1 h2 h3 h4 h5 h6 h7 h8 h9 h10 hB
    simp only [Act.put,gD,gE,gF]
    go_wp2_with fail
    have h0:=H0.out;have h1:=H1.out;have h2:=H2.out;have h3:=H3.out;have h4:=H4.out;have h5:=H5.out;have h6:=H6.out;have h7:=H7.out;have h8:=H8.out;have h9:=H9.out;have h10:=H10.out;have hB:=HBB.out
    exact ⟨x0,x1,x2,x3,x4,x5,_,x7,x8,x9,(by simp only [Act.put,gD,gE,gF]),(fun h=>h0 (by simpa using h)),(fun h=>h1 (by simpa using h)),(fun h=>h2 (by simpa using h)),(fun h=>h3 (by simpa using h)),(fun h=>h4 (by simpa using h)),(fun h=>h5 (by simpa using h)),fun _=>rfl,(fun h=>by obtain ⟨A,c,e,hc⟩:=h7 (by simpa using h);exact ⟨A,c,e,hc.below (Below.refl _ _)⟩),(fun h=>by obtain ⟨A,c,e,hc⟩:=h8 (by simpa using h);exact ⟨A,c,e,hc.below (Below.refl _ _)⟩),(fun h=>by obtain ⟨g,e,hg,k1,k2⟩:=h9 (by simpa using h);exact ⟨g,e,hg,fun h=>(k1 (by simpa using h)).below (Below.refl _ _) (k1 (by simpa using h)).lt,fun h=>by obtain ⟨A,c,hk,hc⟩:=k2 (by simpa using h);exact ⟨A,c,hk.below (Below.refl _ _) hk.lt,hc.below (Below.refl _ _)⟩⟩),(fun h=>by have:=h10 (by simpa using h);simpa using this),hB⟩
   ·skip
    obtain ⟨x0,x1,x2,x3,x4,x5,x6,x7,x8,x9,rfl,h0,h1,h2,h3,h4,h5,h6,h7,h8,h9,h10,hB⟩:=hI
    simp [Region.binds] at hdep
    obtain rfl:=h6 (by first | exact hdep | exact hdep.1 | exact hdep.2 | exact hdep.2.1 | exact hdep.2.2 | exact hdep.2.2.1 | exact hdep.2.2.2 | simp_all)
    obtain ⟨c4,W4,hcv,hs4,hb4,-,hu4⟩:=conv8_any qs (by have:=HPS.out;simp at this;omega) wr wr.heap.size rfl
    have HCV:=hid hcv;have HS4:=hid hs4;have HB4:=hid hb4;have HU4:=hid hu4
    clear hcv hs4 hb4 hu4
    have H0:=hid h0;have H1:=hid h1;have H2:=hid h2;have H3:=hid h3;have H4:=hid h4;have H5:=hid h5;have H6:=hid h6;have H7:=hid h7;have H8:=hid h8;have H9:=hid h9;have H10:=hid h10;have HBB:=hid hB
    clear h0 h1 h2 h3 h4 h5 h6 h7 h8 h9 h10 hB
    simp only [Act.put,gD,gE,gF]
    go_wp2_with fail
    rw [HCV.out]
    skip
    go_wp2_with fail
    have h0:=H0.out;have h1:=H1.out;have h2:=H2.out;have h3:=H3.out;have h4:=H4.out;have h5:=H5.out;have h6:=H6.out;have h7:=H7.out;have h8:=H8.out;have h9:=H9.out;have h10:=H10.out;have hB:=HBB.out
    exact ⟨x0,x1,x2,x3,x4,x5,_,_,x8,x9,(by simp only [Act.put,gD,gE,gF]),(fun h=>h0 (by simpa using h)),(fun h=>h1 (by simpa using h)),(fun h=>h2 (by simpa using h)),(fun h=>h3 (by simpa using h)),(fun h=>h4 (by simpa using h)),(fun h=>h5 (by simpa using h)),(fun _=>rfl),fun _=>⟨_,c4,rfl,HS4.out,HU4.out⟩,(fun h=>by obtain ⟨A,c,e,hc⟩:=h8 (by simpa using h);exact ⟨A,c,e,hc.below HB4.out⟩),(fun h=>by obtain ⟨g,e,hg,k1,k2⟩:=h9 (by simpa using h);exact ⟨g,e,hg,fun h=>(k1 (by simpa using h)).below HB4.out (k1 (by simpa using h)).lt,fun h=>by obtain ⟨A,c,hk,hc⟩:=k2 (by simpa using h);exact ⟨A,c,hk.below HB4.out hk.lt,hc.below HB4.out⟩⟩),(fun h=>by have:=h10 (by simpa using h);simpa using this),(hB.trans (HB4.out.mono hB.size))⟩
   ·skip
    obtain ⟨x0,x1,x2,x3,x4,x5,x6,x7,x8,x9,rfl,h0,h1,h2,h3,h4,h5,h6,h7,h8,h9,h10,hB⟩:=hI
    simp [Region.binds] at hdep
    obtain rfl:=h1 (by first | exact hdep | exact hdep.1 | exact hdep.2 | exact hdep.2.1 | exact hdep.2.2 | exact hdep.2.2.1 | exact hdep.2.2.2 | simp_all)
    obtain rfl:=h4 (by first | exact hdep | exact hdep.1 | exact hdep.2 | exact hdep.2.1 | exact hdep.2.2 | exact hdep.2.2.1 | exact hdep.2.2.2 | simp_all)
    obtain rfl:=h5 (by first | exact hdep | exact hdep.1 | exact hdep.2 | exact hdep.2.1 | exact hdep.2.2 | exact hdep.2.2.1 | exact hdep.2.2.2 | simp_all)
    obtain ⟨A7,c7,rfl,hc7⟩:=h7 (by first | exact hdep | exact hdep.1 | exact hdep.2 | exact hdep.2.1 | exact hdep.2.2 | exact hdep.2.2.1 | exact hdep.2.2.2 | simp_all)
    have HC7:=hid hc7;clear hc7
    have h7':∃ A c,Value.slice A7 qs.size c7=.slice A qs.size c/\ConvS wr A c qs:=⟨_,_,rfl,HC7.out⟩
    have H0:=hid h0;have H1:=hid h1;have H2:=hid h2;have H3:=hid h3;have H4:=hid h4;have H5:=hid h5;have H6:=hid h6;have H7:=hid h7;have H8:=hid h8;have H9:=hid h9;have H10:=hid h10;have HBB:=hid hB
    clear h0 h1 h2 h3 h4 h5 h6 h7 h8 h9 h10 hB
    simp only [Act.put,gD,gE,gF]
    go_wp2_with fail
    have h0:=H0.out;have h1:=H1.out;have h2:=H2.out;have h3:=H3.out;have h4:=H4.out;have h5:=H5.out;have h6:=H6.out;have h7:=H7.out;have h8:=H8.out;have h9:=H9.out;have h10:=H10.out;have hB:=HBB.out
    exact ⟨x0,_,x2,x3,_,_,x6,_,_,x9,(by simp only [Act.put,gD,gE,gF]),(fun h=>h0 (by simpa using h)),(fun _=>rfl),(fun h=>h2 (by simpa using h)),(fun h=>h3 (by simpa using h)),(fun _=>rfl),(fun _=>rfl),(fun h=>h6 (by simpa using h)),(fun _=>⟨_,_,rfl,HC7.out⟩),fun _=>⟨A7,c7,rfl,HC7.out⟩,(fun h=>by obtain ⟨g,e,hg,k1,k2⟩:=h9 (by simpa using h);exact ⟨g,e,hg,fun h=>(k1 (by simpa using h)).below (Below.refl _ _) (k1 (by simpa using h)).lt,fun h=>by obtain ⟨A,c,hk,hc⟩:=k2 (by simpa using h);exact ⟨A,c,hk.below (Below.refl _ _) hk.lt,hc.below (Below.refl _ _)⟩⟩),(fun h=>by have:=h10 (by simpa using h);simpa using this),hB⟩
   ·skip
    obtain ⟨x0,x1,x2,x3,x4,x5,x6,x7,x8,x9,rfl,h0,h1,h2,h3,h4,h5,h6,h7,h8,h9,h10,hB⟩:=hI
    have H0:=hid h0;have H1:=hid h1;have H2:=hid h2;have H3:=hid h3;have H4:=hid h4;have H5:=hid h5;have H6:=hid h6;have H7:=hid h7;have H8:=hid h8;have H9:=hid h9;have H10:=hid h10;have HBB:=hid hB
    clear h0 h1 h2 h3 h4 h5 h6 h7 h8 h9 h10 hB
    simp only [Act.put,gD,gE,gF]
    go_wp2_with fail
    have h0:=H0.out;have h1:=H1.out;have h2:=H2.out;have h3:=H3.out;have h4:=H4.out;have h5:=H5.out;have h6:=H6.out;have h7:=H7.out;have h8:=H8.out;have h9:=H9.out;have h10:=H10.out;have hB:=HBB.out
    exact ⟨x0,x1,x2,x3,x4,x5,x6,x7,x8,_,(by simp only [Act.put,gD,gE,gF]),(fun h=>h0 (by simpa using h)),(fun h=>h1 (by simpa using h)),(fun h=>h2 (by simpa using h)),(fun h=>h3 (by simpa using h)),(fun h=>h4 (by simpa using h)),(fun h=>h5 (by simpa using h)),(fun h=>h6 (by simpa using h)),(fun h=>by obtain ⟨A,c,e,hc⟩:=h7 (by simpa using h);exact ⟨A,c,e,hc.below (bw_a (Below.refl _ wr) _)⟩),(fun h=>by obtain ⟨A,c,e,hc⟩:=h8 (by simpa using h);exact ⟨A,c,e,hc.below (bw_a (Below.refl _ wr) _)⟩),fun _=>⟨wr.heap.size,rfl,hB.size,fun _=>Blk.new wr _ _,fun h=>by simp at h;have:=h10 h;rw [hf] at this;cases this⟩,(fun h=>by simp),(hB.trans ((bw_a (Below.refl _ wr) _).mono hB.size))⟩
   ·skip
    obtain ⟨x0,x1,x2,x3,x4,x5,x6,x7,x8,x9,rfl,h0,h1,h2,h3,h4,h5,h6,h7,h8,h9,h10,hB⟩:=hI
    simp [Region.binds] at hdep
    obtain ⟨A8,c8,rfl,hc8⟩:=h8 (by first | exact hdep | exact hdep.1 | exact hdep.2 | exact hdep.2.1 | exact hdep.2.2 | simp_all)
    have hf9:f 9=true:=by first | exact hdep | exact hdep.1 | exact hdep.2 | exact hdep.2.1 | exact hdep.2.2 | simp_all
    obtain ⟨g,rfl,hg,k1,-⟩:=h9 hf9
    have hkg:=k1 hf
    have hst:=fstep hkg (.int .i64 num) (.int .u8 (wd:Int)) (.int .u64 (qn:Int)) (.slice A8 qs.size c8) (.int .i64 0)
    have y0:=hkg.cell 0;have y1:=hkg.cell 1;have y2:=hkg.cell 2;have y3:=hkg.cell 3;have y4:=hkg.cell 4
    have z0:=hkg.frozen 0;have z1:=hkg.frozen 1;have z2:=hkg.frozen 2;have z3:=hkg.frozen 3;have z4:=hkg.frozen 4
    simp only [gA,gB,gC] at y0 y1 y2 y3 y4
    have HKG:=hid hkg;have HST:=hid hst;have HC8:=hid hc8;have HG:=hid hg
    clear hkg hst hc8 hg k1 h8 h9
    have H0:=hid h0;have H1:=hid h1;have H2:=hid h2;have H3:=hid h3;have H4:=hid h4;have H5:=hid h5;have H6:=hid h6;have H7:=hid h7;have H10:=hid h10;have HBB:=hid hB
    clear h0 h1 h2 h3 h4 h5 h6 h7 h10 hB
    simp only [Act.put,gD,gE,gF]
    go_wp2_with fail
    obtain ⟨hkn,hcn⟩:=HST.out
    have h0:=H0.out;have h1:=H1.out;have h2:=H2.out;have h3:=H3.out;have h4:=H4.out;have h5:=H5.out;have h6:=H6.out;have h7:=H7.out;have h10:=H10.out;have hB:=HBB.out
    exact ⟨x0,x1,x2,x3,x4,x5,x6,x7,.agg #[.int .i64 num,.int .u8 (wd:Int),.int .u64 (qn:Int),.slice A8 qs.size c8,.int .i64 0],.pointer (some ⟨g,0,none⟩),(by simp only [Act.put,gD,gE,gF]),(fun h=>h0 (by simpa using h)),(fun h=>h1 (by simpa using h)),(fun h=>h2 (by simpa using h)),(fun h=>h3 (by simpa using h)),(fun h=>h4 (by simpa using h)),(fun h=>h5 (by simpa using h)),(fun h=>h6 (by simpa using h)),(fun h=>by obtain ⟨A,c,e,hc⟩:=h7 (by simpa using h);exact ⟨A,c,e,hc.chg HKG.out (by decide) hcn⟩),(fun _=>⟨A8,c8,rfl,HC8.out.chg HKG.out (by decide) hcn⟩),(fun _=>⟨g,rfl,HG.out,fun h=>by simp at h,fun _=>⟨A8,c8,hkn,HC8.out.chg HKG.out (by decide) hcn⟩⟩),(fun _=>by simp [hf9]),hB.trans (hcn.below (fun k hk=>by rw [hk];exact HG.out) hB.size)⟩
  ·intro f a' wr hall hI
   obtain ⟨x0,x1,x2,x3,x4,x5,x6,x7,x8,x9,rfl,h0,h1,h2,h3,h4,h5,h6,h7,h8,h9,h10,hB⟩:=hI
   obtain rfl:=h0 (hall 0 (by simp))
   obtain rfl:=h1 (hall 1 (by simp))
   obtain rfl:=h2 (hall 2 (by simp))
   obtain rfl:=h3 (hall 3 (by simp))
   obtain rfl:=h4 (hall 4 (by simp))
   obtain rfl:=h5 (hall 5 (by simp))
   obtain rfl:=h6 (hall 6 (by simp))
   obtain ⟨A7,c7,rfl,-⟩:=h7 (hall 7 (by simp))
   obtain ⟨A8,c8,rfl,-⟩:=h8 (hall 8 (by simp))
   obtain ⟨g,rfl,hg,-,k9⟩:=h9 (hall 9 (by simp))
   obtain ⟨A,c,hkg,hcv⟩:=k9 (hall 10 (by simp))
   have d0:=(hB.cell (p:=⟨s+1,0,none⟩) hl2).trans HT.out.1
   have d1:=(hB.cell (p:=⟨s+1,1,none⟩) hl2).trans HT.out.2.1
   have d2:=(hB.cell (p:=⟨s+1,2,none⟩) hl2).trans HT.out.2.2
   have y0:=hkg.cell 0;have y1:=hkg.cell 1;have y2:=hkg.cell 2;have y3:=hkg.cell 3;have y4:=hkg.cell 4
   simp only [gA,gB,gC] at y0 y1 y2 y3 y4
   have HB3:=hid (HB2.out.trans (hB.mono (by have:=HB2.out.size;omega)))
   have HKG:=hid hkg
   have HCV:=hid hcv
   have hgs:s+2<=g:=by omega
   have HBR2:=hid (hB.mono (show s+2<=w2.heap.size by omega))
   have hgl:=hkg.lt
   clear h0 h1 h2 h3 h4 h5 h6 h7 h8 h9 h10 k9 hkg hcv hB hall f HT HWI HVD HPL
   simp only [Act.put,gD,gE,gF]
   have hfb:=HFIT.out (by omega) (by omega)
   have HFB:=hid hfb
   clear hfb HFIT
   have hn1':1<=num:=by omega
   have hn2':num<=536870911:=by omega
   by_cases ht3:t=3
   ·subst ht3
    have hpw:=HZIG.out (by first | rfl | trivial)
    have hb:=HFB.out
    have hr:=w64_range (qn:Int)
    obtain ⟨q,hq,hq2⟩:=zig_nat _ hr.1 hr.2
    have hzg:=fun W=>rzig_any (wrap64 (qn:Int)) W hr.1 hr.2
    rw [hq] at hpw hzg
    rw [hpw,List.flatMap_cons,List.flatMap_nil,List.append_nil] at hb
    have hkg5:=HKG.out.set_ 2 (.int .u64 (q:Int))
    have hch:=(Chg.refl (fun k=>k=g) wr).set_ (.inl rfl) 2 (.int .u64 (q:Int))
    have HC:=hid (fv_one num 0 q qs A c _ hn1' hn2' (.inl rfl) hq2 HPS.out (HCV.out.chg HKG.out (by decide) hch))
    have hw0:wd=0:=HW3.out (by first | rfl | trivial)
    subst hw0
    simp only [Int.toNat_natCast] at hb
    have hb':fb=wB (num,((0:Nat):Int),q,qs.data.toList):=hb
    rw [<-hb'] at HC
    obtain ⟨fl,hfl⟩:∃ fl,fb.length=fl:=⟨_,rfl⟩
    rw [hfl] at HC
    have HFLE:=hid hfl
    have HZG:=hid hzg
    have HKG5:=hid hkg5
    have HCH:=hid hch
    have z2:=HKG.out.frozen 2
    clear hpw hb hb' hfl hzg hkg5 hch HDCT hr hq hq2
    go_wp2_with fail
    refine (HZG.out _).mono ?_
    rintro e w5 ⟨rfl,rfl⟩
    go_wp2_with fail
    refine HC.out.mono ?_
    rintro e w6 ⟨A5,c5,rfl,hs5,hb5⟩
    have HS5:=hid hs5
    have hb35:=HB3.out.trans (HCH.out.below (B:=s) (fun k hk=>by omega) (by have:=HB3.out.size;omega))
    have HB5:=hid (hb35.trans (hb5.mono (by have:=hb35.size;omega)))
    clear hs5 hb5 hb35
    go_wp2_with fail
    rw [HR.out]
    exact ⟨A5,c5,by rw [HFLE.out];rfl,HS5.out,HB5.out⟩
   by_cases ht10:t=10
   ·subst ht10
    obtain ⟨hpw,hqn,hqv⟩:=HLST.out (by first | rfl | trivial)
    have hwd:wd=2:=HW10.out (by first | rfl | trivial)
    subst hqn
    subst hwd
    subst hqv
    have hb:=HFB.out
    rw [hpw,List.flatMap_map] at hb
    have HFB2:=hid hb
    have HSL:=hid hsl
    have HES:=hid hes
    have HEL:=hid hel
    have hkz:=HKG.out
    have HNL:Hid (m.l.length=len):=by rw [<-List.length_reverse];exact hid hlr
    clear hpw hb hsl hes hel HFB HLST HONE HZIG HW3 HW10 HPN HPS HDCT HCV y0 y1 y2 y3 y4
    go_wp2_with fail
    go_loopw [9,10] (fun ov ix wz=>∃ (j bl:Nat) (bs:List UInt8) (Ao:Option Addr) (co:Nat) (Ax:Option Addr) (nx cx:Nat),j<=len/\ix=.int .i64 (j:Int)/\ov=.slice Ao bl co/\bs=(m.l.take j).flatMap (fun s=>wB (num,2,0,s.data.toList))/\bs.length=bl/\bl<=8100 * j/\wz.ownsRow (g+1) 5 1 (.slice Ao bl co) bl (bs.map bv)/\Blk wz g 61 #[.int .i64 num,.int .u8 2,.int .u64 0,.slice Ax nx cx,.int .i64 0]/\Below (s+2) w2 wz) (fun _ ix _=>len - (intOf ix).toNat)
    case atStart=>exact ⟨0,0,[],none,0,A,qs.size,c,by omega,rfl,rfl,rfl,rfl,by omega,World.ownsRow_nil _ _ _ _,HKG.out,HBR2.out⟩
    case round =>
     obtain ⟨j,bl,bs,Ao,co,Ax,nx,cx,hj,rfl,rfl,hbs,hbl,hbl2,ho,hk,hB⟩:=hrel
     have hglt:=hk.lt
     have hBs:=HB2.out.trans (hB.mono (by omega))
     by_cases hlt:j < len
     ·have hjl:j < m.l.length:=by have:=HNL.out;omega
      have hn0:(m.l.map sv)[j]? = some (.string m.l[j]):=by rw [List.getElem?_map,List.getElem?_eq_getElem hjl];rfl
      have hsz:=HEL.out m.l[j] (List.getElem_mem hjl)
      have htk:(m.l.take (j+1)).flatMap (fun s=>wB (num,2,0,s.data.toList))=(m.l.take j).flatMap (fun s=>wB (num,2,0,s.data.toList))++wB (num,2,0,m.l[j].data.toList):=by
       rw [List.take_succ_eq_append_getElem hjl,List.flatMap_append];simp
      rw [<-hbs] at htk
      generalize m.A=mA at *
      obtain ⟨b,off,rfl,hbw,t0⟩:=HSL.out.rd _ _ hn0
      have t0:=(hBs.cell (p:=⟨b,off+j,none⟩) (by rw [hws] at hbw;exact hbw)).trans t0
      clear hn0
      generalize m.l[j]=sx at *
      have hlx:sx.data.toList.length<=8000:=by simpa using hsz
      have hf8:=wB_len8 num 2 0 sx.data.toList (.inr (.inr (.inl rfl))) (by omega) hlx
      obtain ⟨fb2,hfb2⟩:∃ x,wB (num,((2:Nat):Int),0,sx.data.toList)=x:=⟨_,rfl⟩
      have htk2:(m.l.take (j+1)).flatMap (fun s=>wB (num,2,0,s.data.toList))=bs++fb2:=by rw [htk,<-hfb2];rfl
      obtain ⟨fl,hfl⟩:∃ fl,fb2.length=fl:=⟨_,rfl⟩
      obtain ⟨c4,W4,hcv,hs4,hb4,hz4,hu4⟩:=conv8_any sx (by omega) wr wr.heap.size rfl
      have hk4:=hk.below hb4 hk.lt
      have hch4:Chg (fun k=>k=g) W4 (W4.setCell ⟨g,3,none⟩ (.slice (some ⟨wr.heap.size,0,none⟩) sx.size c4)):=(Chg.refl (fun k=>k=g) W4).set_ (.inl rfl) 3 _
      have hch5:Chg (fun k=>k=g) wr (W4.setCell ⟨g,3,none⟩ (.slice (some ⟨wr.heap.size,0,none⟩) sx.size c4)):=(Chg.of_new hb4).trans hch4
      have hcs:ConvS (W4.setCell ⟨g,3,none⟩ (.slice (some ⟨wr.heap.size,0,none⟩) sx.size c4)) (some ⟨wr.heap.size,0,none⟩) c4 sx:=ConvS.chg ⟨hs4,hu4⟩ hk4 (by decide) hch4
      have hk5:=hk4.set_ 3 (.slice (some ⟨wr.heap.size,0,none⟩) sx.size c4)
      have ho5:=own_chgS ho hch5 (fun g2 hg2 e=>by have:=(ho.lt g2 hg2).1;omega)
      have hB5:=hBs.trans (hch5.below (B:=s) (fun k hk=>by omega) (by have:=hBs.size;omega))
      have hB52:=hB.trans (hch5.below (B:=s+2) (fun k hk=>by omega) (by have:=hB.size;omega))
      have hc5:=fv_one num 2 0 sx _ c4 _ hn1' hn2' (.inr (.inr (.inl rfl))) (by omega) hlx hcs
      rw [hfb2,hfl] at hc5
      rw [hfb2,hfl] at hf8
      have f0:=hk4.cell 0
      have f1:=hk4.cell 1
      have f2:=hk4.cell 2
      have f3:=hk4.cell 3
      have f4:=hk4.cell 4
      have z3:=hk4.frozen 3
      simp only [gA,gB,gC] at f0 f1 f2 f3 f4
      simp at hk5
      have hji:(j:Int) < (len:Int):=by omega
      have hj0:(0:Int)<=(j:Int):=by omega
      have hz4':g < W4.heap.size:=Nat.lt_of_lt_of_le hglt hb4.size
      have HCV4:=hid hcv
      have HK5:=hid hk5
      have HO5:=hid ho5
      have HB5:=hid hB5
      have HB52:=hid hB52
      have HC5:=hid hc5
      have HTK:=hid htk2
      have HFL:=hid hfl
      have HBL:=hid hbl
      clear htk htk2 hbs hfl hbl hcv hs4 hb4 hz4 hu4 hk4 hch4 hch5 hcs hk5 ho5 hB5 hB52 hc5 ho hk hB hBs hfb2
      go_wp2_with fail
      rw [HCV4.out]
      go_wp2_with fail
      refine HC5.out.mono ?_
      rintro e w6 ⟨A6,c6,rfl,hs6,hb6⟩
      have hl5:=HK5.out.lt
      have ho6:=own_below HO5.out hb6
      have HK6:=hid (HK5.out.below hb6 hl5)
      have HJ:=hid (rjoin2_own bs fb2 bl fl Ao A6 co c6 w6 HBL.out HFL.out (by omega) (Sl.of_own' ho6) hs6)
      have HB6:=hid (HB5.out.trans (hb6.mono (by have:=HB5.out.size;omega)))
      have HB62:=hid (HB52.out.trans (hb6.mono (by have:=HB52.out.size;omega)))
      clear hs6 hb6 ho6 f0 f1 f2 f3 f4 z3
      go_wp2_with fail
      refine HJ.out.mono ?_
      rintro e w7 ⟨v7,rfl,ho7,hb7⟩
      obtain ⟨A7,c7,rfl⟩:=row_slice' ho7
      have hl6:=HK6.out.lt
      have HK7:=hid (HK6.out.below hb7 hl6)
      have HO7:=hid (own_mono ho7 (show g+1<=w6.heap.size by omega))
      have HB7:=hid (HB62.out.trans (hb7.mono (by have:=HB62.out.size;omega)))
      clear ho7 hb7
      go_wp2_with fail
      go_roundw
      case rel=>exact ⟨j+1,bl+fl,bs++fb2,A7,c7,_,_,_,by omega,by go_num,rfl,HTK.out.symm,by rw [List.length_append,HBL.out,HFL.out],by omega,HO7.out,HK7.out,HB7.out⟩
      case measure=>simp [intOf];omega
     ·obtain rfl:j=len:=by omega
      rw [List.take_of_length_le (by have:=HNL.out;omega),<-HFB2.out] at hbs
      subst hbs
      have HO:=hid ho
      have HBB:=hid hBs
      have HBL:=hid hbl
      clear ho hBs hbl hk hB
      go_wp2_with fail
      first
       | rw [HR.out]
       | (go_ret;rw [HR.out])
      exact ⟨Ao,co,by rw [HBL.out];rfl,Sl.of_own' HO.out,HBB.out⟩
   ·have ht:1<=t/\t<=10:=by have:=HDCT.out;rcases this with ⟨h,-⟩ | h | ⟨h,-⟩ | h <;> omega
    have hpw:=HONE.out ht10 ht3 ht.1 ht.2
    have hb:=HFB.out
    rw [hpw,List.flatMap_cons,List.flatMap_nil,List.append_nil] at hb
    have HC:=hid (fv_one num wd qn qs A c wr hn1' hn2' hwc HPN.out HPS.out HCV.out)
    rw [<-hb] at HC
    have hb3:(t == 3)=false:=by simpa using ht3
    have hb10:(t != 10)=true:=by simpa using ht10
    obtain ⟨fl,hfl⟩:∃ fl,fb.length=fl:=⟨_,rfl⟩
    rw [hfl] at HC
    have HFLE:=hid hfl
    clear hpw hb hfl HDCT
    go_wp2_with fail
    refine HC.out.mono ?_
    rintro e w5 ⟨A5,c5,rfl,hs5,hb5⟩
    have HS5:=hid hs5
    have HB5:=hid (HB3.out.trans (hb5.mono (by have:=HB3.out.size;omega)))
    clear hs5 hb5
    go_wp2_with fail
    rw [HR.out]
    exact ⟨A5,c5,by rw [HFLE.out];rfl,HS5.out,HB5.out⟩
end Go.Proofs.YtpmfdlghckfgiaaGreat
