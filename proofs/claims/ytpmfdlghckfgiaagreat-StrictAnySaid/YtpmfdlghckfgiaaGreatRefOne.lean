/- The document's One: a field at a reader's -/
import Derived.Test.YtpmfdlghckfgiaaGreatM5
import Derived.Test.YtpmfdlghckfgiaaGreatSk1
set_option linter.unusedVariables false
set_option maxRecDepth 100000
set_option maxHeartbeats 16000000
namespace Go.Proofs.YtpmfdlghckfgiaaGreat
open Go.RowKit
theorem fin52 {W:World} {s:Nat} {t0 t1:TypeId} {a0 a1 a2 a3 a4 b0 b1:Value} (h0:Blk W s t0 #[a0,a1,a2,a3,a4]) (h1:Blk W (s+1) t1 #[b0,b1]) (x0 x1 x2 x3 x4 y0 y1:Value) :
  Blk (((((((W.setCell ⟨s,0,none⟩ x0).setCell ⟨s,1,none⟩ x1).setCell ⟨s,2,none⟩ x2).setCell ⟨s,3,none⟩ x3).setCell ⟨s,4,none⟩ x4).setCell ⟨s+1,0,none⟩ y0).setCell ⟨s+1,1,none⟩ y1) s t0 #[x0,x1,x2,x3,x4] /\
  Blk (((((((W.setCell ⟨s,0,none⟩ x0).setCell ⟨s,1,none⟩ x1).setCell ⟨s,2,none⟩ x2).setCell ⟨s,3,none⟩ x3).setCell ⟨s,4,none⟩ x4).setCell ⟨s+1,0,none⟩ y0).setCell ⟨s+1,1,none⟩ y1) (s+1) t1 #[y0,y1] /\
  Chg (fun k=>k=s\/k=s+1) W (((((((W.setCell ⟨s,0,none⟩ x0).setCell ⟨s,1,none⟩ x1).setCell ⟨s,2,none⟩ x2).setCell ⟨s,3,none⟩ x3).setCell ⟨s,4,none⟩ x4).setCell ⟨s+1,0,none⟩ y0).setCell ⟨s+1,1,none⟩ y1):=by
 refine ⟨?_,?_,(((((((Chg.refl (fun k=>k=s\/k=s+1) W).set_ (.inl (.inl rfl)) 0 x0).set_ (.inl (.inl rfl)) 1 x1).set_ (.inl (.inl rfl)) 2 x2).set_ (.inl (.inl rfl)) 3 x3).set_ (.inl (.inl rfl)) 4 x4).set_ (.inl (.inr rfl)) 0 y0).set_ (.inl (.inr rfl)) 1 y1⟩
 ·have:=((((((h0.set_ 0 x0).set_ 1 x1).set_ 2 x2).set_ 3 x3).set_ 4 x4).far (p:=⟨s+1,0,none⟩) (by simp) y0).far (p:=⟨s+1,1,none⟩) (by simp) y1
  simpa using this
 ·have:=((((((h1.far (p:=⟨s,0,none⟩) (by simp) x0).far (p:=⟨s,1,none⟩) (by simp) x1).far (p:=⟨s,2,none⟩) (by simp) x2).far (p:=⟨s,3,none⟩) (by simp) x3).far (p:=⟨s,4,none⟩) (by simp) x4).set_ 0 y0).set_ 1 y1
  simpa using this
theorem far_none (g:Nat):Far none 0 g:=fun hp=>absurd hp (by simp)
theorem rone_bad (e:Nat) (w:World) (q:Nat) (A:Option Addr) (c:Nat) (bs:List UInt8) (p:Nat) (hh:(rHead bs p).2.2.1=e) (he:e ≠ 0) (h:Rin 80 w q A c bs p) :
  Calls Tryz.prog 34 #[.pointer (some ⟨q,0,none⟩)] w fun e' w'=>e'=.returned (.tuple #[.agg #[.int .i64 0,.int .u8 0,.int .u64 0,.slice none 0 0,.int .i64 0],.agg #[.int .i64 (e:Int),.int .i64 (p:Int)]])/\Rin 80 w' q A c bs p/\Only q w w':=by
 have hlt:=h.blk.lt
 have htg:=fun W hb=>rtag_any W q A c bs p (h.below hb)
 have hfn:=fun g (hg:w.heap.size<=g)=>far_new h.sl hg
 have c1:w.cell? ⟨q,1,none⟩=some (.int .i64 (p:Int)):=by simpa using h.blk.cell 1
 simp only [hh,he,if_false,flt,plc] at htg
 have heb:((e:Int) != 0)=true:=by simp;omega
 have HTG:=hid htg
 have HFN:=hid hfn
 clear htg hfn h hh he
 go_enter Tryz.func34,Tryz.ntmps34
 go_wp2_with fail
 generalize hW:World.alloc _ _=W
 have hbW:Below w.heap.size w W:=by rw [<-hW];exact bw_a (bw_a (bw_a (Below.refl _ w) _) _) _
 have hoW:Only q w W:=.of_below hbW
 have hq2:Blk W w.heap.size 61 #[.int .i64 0,.int .u8 0,.int .u64 0,.slice none 0 0,.int .i64 0]:=by rw [<-hW];exact ((Blk.new w _ _).alloc _).alloc _
 have hq3:Blk W (w.heap.size+1) 32 #[.int .i64 0,.int .i64 0]:=by
  rw [<-hW]
  have:=(Blk.new (w.alloc (.cells #[.int .i64 0,.int .u8 0,.int .u64 0,.slice none 0 0,.int .i64 0] 61)) 32 #[.int .i64 0,.int .i64 0]).alloc (.cells #[.int .i64 0,.int .u8 0,.int .u64 0,.slice none 0 0,.int .i64 (p:Int)] 61)
  simpa using this
 have hq4:Blk W (w.heap.size+1+1) 61 #[.int .i64 0,.int .u8 0,.int .u64 0,.slice none 0 0,.int .i64 (p:Int)]:=by
  rw [<-hW]
  have:=Blk.new ((w.alloc (.cells #[.int .i64 0,.int .u8 0,.int .u64 0,.slice none 0 0,.int .i64 0] 61)).alloc (.cells #[.int .i64 0,.int .i64 0] 32)) 61 #[.int .i64 0,.int .u8 0,.int .u64 0,.slice none 0 0,.int .i64 (p:Int)]
  simpa using this
 clear hW
 refine (HTG.out _ hbW).mono ?_
 rintro e1 w1 ⟨rfl,hrin,ho⟩
 have hk2:=ho.blk hq2 (by omega)
 have hk3:=ho.blk hq3 (by omega)
 have hk4:=ho.blk hq4 (by omega)
 have hO:=hoW.trans ho
 clear hq2 hq3 hq4 hoW ho
 generalize hs:w.heap.size=s at *
 clear HTG c1
 have x0:w1.cell? ⟨s+1+1,0,none⟩=some (.int .i64 0):=hk4.cell 0
 have hl4:=hk4.lt
 go_wp2_with fail
 generalize hW3:World.alloc _ _=W3
 have hb3:Below w1.heap.size w1 W3:=by rw [<-hW3];exact bw_a (Below.refl _ w1) _
 have hk7:Blk W3 w1.heap.size 32 #[.int .i64 (e:Int),.int .i64 (p:Int)]:=by rw [<-hW3];exact Blk.new w1 _ _
 have m2:=hk2.below hb3 hk2.lt
 have m3:=hk3.below hb3 hk3.lt
 have hn7:w1.heap.size ≠ s:=by omega
 have hn8:w1.heap.size ≠ s+1:=by omega
 have a0:W3.cell? ⟨s,0,none⟩=some (.int .i64 0):=m2.cell 0
 have a1:W3.cell? ⟨s,1,none⟩=some (.int .u8 0):=m2.cell 1
 have a2:W3.cell? ⟨s,2,none⟩=some (.int .u64 0):=m2.cell 2
 have a3:W3.cell? ⟨s,3,none⟩=some (.slice none 0 0):=m2.cell 3
 have a4:W3.cell? ⟨s,4,none⟩=some (.int .i64 0):=m2.cell 4
 have g0:=m2.frozen 0
 have g1:=m2.frozen 1
 have g2:=m2.frozen 2
 have g3:=m2.frozen 3
 have g4:=m2.frozen 4
 have b0:W3.cell? ⟨s+1,0,none⟩=some (.int .i64 0):=m3.cell 0
 have b1:W3.cell? ⟨s+1,1,none⟩=some (.int .i64 0):=m3.cell 1
 have i0:=m3.frozen 0
 have i1:=m3.frozen 1
 have e0:W3.cell? ⟨w1.heap.size,0,none⟩=some (.int .i64 (e:Int)):=hk7.cell 0
 have e1:W3.cell? ⟨w1.heap.size,1,none⟩=some (.int .i64 (p:Int)):=hk7.cell 1
 have hl2:=m2.lt
 have hl3:=m3.lt
 have hl7:=hk7.lt
 have HR3:=hid (hrin.below hb3)
 have HO3:=hid (hO.trans (.of_below hb3))
 clear hW3 hb3 hk7 m2 m3 hk2 hk3 hk4 hrin hO x0
 go_region
 all_goals go_wp2_with fail
 all_goals refine bodyPost_ret (v:=.tuple #[.agg #[.int .i64 0,.int .u8 0,.int .u64 0,.slice none 0 0,.int .i64 0],.agg #[.int .i64 (e:Int),.int .i64 (p:Int)]]) (by simp [results,Tryz.results34,go_sem,a0,a1,a2,a3,a4,b0,b1]) rfl ⟨rfl,?_,?_⟩
 ·exact HR3.out.chgS (chg52 W3 s (s+1) _ _ _ _ _ _ _) (by omega) (fun hp b o he hS=>hS.elim (fun h=>HFN.out b (by omega) hp b o he rfl) (fun h=>HFN.out b (by omega) hp b o he rfl))
 ·exact HO3.out.chgS (chg52 W3 s (s+1) _ _ _ _ _ _ _) (fun k hk=>by omega)
theorem rval0 (w:World) (q:Nat) (A:Option Addr) (c:Nat) (bs:List UInt8) (p:Nat) (h:Rin 80 w q A c bs p) :
  Calls Tryz.prog 57 #[.pointer (some ⟨q,0,none⟩)] w fun e w'=>e=.returned (.tuple #[.int .u64 ((rVal 0 bs p).1:Nat),.agg #[.int .i64 ((rVal 0 bs p).2.2.1:Nat),.int .i64 (flt (rVal 0 bs p).2.2.1 p:Nat)]])/\Rin 80 w' q A c bs (rVal 0 bs p).2.2.2/\Only q w w':=by
 have h1:=rvar_any w q A c bs p h
 have hr:rVal 0 bs p=((M.get (bs.drop p)).1,[],(M.get (bs.drop p)).2.2,p+(M.get (bs.drop p)).2.1):=by
  have hg:=M.get_facts (bs.drop p)
  unfold rVal plc
  rw [if_pos rfl]
  by_cases h0:(M.get (bs.drop p)).2.2=0
  ·rw [if_pos h0,if_pos h0]
  ·rw [if_neg h0,if_neg h0,(hg.2 h0).1,(hg.2 h0).2.1];rfl
 rw [hr]
 exact h1
theorem rval1 (w:World) (q:Nat) (A:Option Addr) (c:Nat) (bs:List UInt8) (p:Nat) (h:Rin 80 w q A c bs p) :
  Calls Tryz.prog 58 #[.pointer (some ⟨q,0,none⟩),.int .i64 8] w fun e w'=>e=.returned (.tuple #[.int .u64 ((rVal 1 bs p).1:Nat),.agg #[.int .i64 ((rVal 1 bs p).2.2.1:Nat),.int .i64 (flt (rVal 1 bs p).2.2.1 p:Nat)]])/\Rin 80 w' q A c bs (rVal 1 bs p).2.2.2/\Only q w w':=by
 have h1:=rfixed_any 8 w q A c bs p (by omega) (by omega) h
 have hr:rVal 1 bs p=((rFix 8 bs p).1,[],(rFix 8 bs p).2.1,(rFix 8 bs p).2.2):=by
  unfold rVal
  rw [if_neg (by omega),if_pos rfl]
  unfold rFix plc
  split <;> rfl
 rw [hr]
 exact h1
theorem rval2 (w:World) (q:Nat) (A:Option Addr) (c:Nat) (bs:List UInt8) (p:Nat) (hbl:bs.length<=100000) (h:Rin 80 w q A c bs p) :
  Calls Tryz.prog 59 #[.pointer (some ⟨q,0,none⟩),.int .i64 8192] w fun e w'=>∃ A' c',e=.returned (.tuple #[.slice A' (rVal 2 bs p).2.1.length c',.agg #[.int .i64 ((rVal 2 bs p).2.2.1:Nat),.int .i64 (flt (rVal 2 bs p).2.2.1 p:Nat)]])/\Sl w' A' c' ((rVal 2 bs p).2.1.map bv)/\(∀ g,g < w.heap.size->Far A' (rVal 2 bs p).2.1.length g)/\Rin 80 w' q A c bs (rVal 2 bs p).2.2.2/\Only q w w':=by
 have h1:=rbytesf_any 8192 w q A c bs p (by omega) (by omega) hbl h
 have hr:rVal 2 bs p=(0,if (rCount 8192 bs p).2.1=0 then (rCount 8192 bs p).1 else [],(rCount 8192 bs p).2.1,plc (rCount 8192 bs p).2.1 p (rCount 8192 bs p).2.2):=by unfold rVal;rw [if_neg (by omega),if_neg (by omega),if_pos rfl]
 rw [hr]
 exact h1
theorem rval5 (w:World) (q:Nat) (A:Option Addr) (c:Nat) (bs:List UInt8) (p:Nat) (h:Rin 80 w q A c bs p) :
  Calls Tryz.prog 58 #[.pointer (some ⟨q,0,none⟩),.int .i64 4] w fun e w'=>e=.returned (.tuple #[.int .u64 ((rVal 5 bs p).1:Nat),.agg #[.int .i64 ((rVal 5 bs p).2.2.1:Nat),.int .i64 (flt (rVal 5 bs p).2.2.1 p:Nat)]])/\Rin 80 w' q A c bs (rVal 5 bs p).2.2.2/\Only q w w':=by
 have h1:=rfixed_any 4 w q A c bs p (by omega) (by omega) h
 have hr:rVal 5 bs p=((rFix 4 bs p).1,[],(rFix 4 bs p).2.1,(rFix 4 bs p).2.2):=by
  unfold rVal
  rw [if_neg (by omega),if_neg (by omega),if_neg (by omega)]
  unfold rFix plc
  split <;> rfl
 rw [hr]
 exact h1
theorem rone_0 (num:Int) (p1:Nat) (v er fa nx:Nat) (w:World) (q:Nat) (A:Option Addr) (c:Nat) (bs:List UInt8) (p:Nat) (hh:rHead bs p=(num,0,0,p1)) (hv:rVal 0 bs p1=(v,[],er,nx)) (hfa:flt er p1=fa) (he:er=0) (h:Rin 80 w q A c bs p) :
  Calls Tryz.prog 34 #[.pointer (some ⟨q,0,none⟩)] w fun e' w'=>e'=.returned (.tuple #[.agg #[.int .i64 num,.int .u8 0,.int .u64 (v:Int),.slice none 0 0,.int .i64 (p:Int)],.agg #[.int .i64 0,.int .i64 0]])/\Rin 80 w' q A c bs nx/\Only q w w':=by
 have hlt:=h.blk.lt
 have htg:=fun W hb=>rtag_any W q A c bs p (h.below hb)
 have hfn:=fun g (hg:w.heap.size<=g)=>far_new h.sl hg
 have c1:w.cell? ⟨q,1,none⟩=some (.int .i64 (p:Int)):=by simpa using h.blk.cell 1
 have hvl:=fun W hr=>rval0 W q A c bs p1 hr
 simp only [hh,if_true,flt,plc] at htg
 simp only [hv,hfa] at hvl
 subst he
 obtain rfl:fa=0:=by rw [<-hfa];rfl
 have HTG:=hid htg
 have HVL:=hid hvl
 have HFN:=hid hfn
 clear htg hvl hfn h hh hv hfa
 go_enter Tryz.func34,Tryz.ntmps34
 go_wp2_with fail
 generalize hW:World.alloc _ _=W
 have hbW:Below w.heap.size w W:=by rw [<-hW];exact bw_a (bw_a (bw_a (Below.refl _ w) _) _) _
 have hoW:Only q w W:=.of_below hbW
 have hq2:Blk W w.heap.size 61 #[.int .i64 0,.int .u8 0,.int .u64 0,.slice none 0 0,.int .i64 0]:=by rw [<-hW];exact ((Blk.new w _ _).alloc _).alloc _
 have hq3:Blk W (w.heap.size+1) 32 #[.int .i64 0,.int .i64 0]:=by
  rw [<-hW]
  have:=(Blk.new (w.alloc (.cells #[.int .i64 0,.int .u8 0,.int .u64 0,.slice none 0 0,.int .i64 0] 61)) 32 #[.int .i64 0,.int .i64 0]).alloc (.cells #[.int .i64 0,.int .u8 0,.int .u64 0,.slice none 0 0,.int .i64 (p:Int)] 61)
  simpa using this
 have hq4:Blk W (w.heap.size+1+1) 61 #[.int .i64 0,.int .u8 0,.int .u64 0,.slice none 0 0,.int .i64 (p:Int)]:=by
  rw [<-hW]
  have:=Blk.new ((w.alloc (.cells #[.int .i64 0,.int .u8 0,.int .u64 0,.slice none 0 0,.int .i64 0] 61)).alloc (.cells #[.int .i64 0,.int .i64 0] 32)) 61 #[.int .i64 0,.int .u8 0,.int .u64 0,.slice none 0 0,.int .i64 (p:Int)]
  simpa using this
 clear hW
 refine (HTG.out _ hbW).mono ?_
 rintro e1 w1 ⟨rfl,hrin,ho⟩
 have hk2:=ho.blk hq2 (by omega)
 have hk3:=ho.blk hq3 (by omega)
 have hk4:=ho.blk hq4 (by omega)
 have hO:=hoW.trans ho
 clear hq2 hq3 hq4 hoW ho
 generalize hs:w.heap.size=s at *
 clear HTG c1
 have x0:w1.cell? ⟨s+1+1,0,none⟩=some (.int .i64 0):=hk4.cell 0
 have x1:w1.cell? ⟨s+1+1,1,none⟩=some (.int .u8 0):=hk4.cell 1
 have x2:w1.cell? ⟨s+1+1,2,none⟩=some (.int .u64 0):=hk4.cell 2
 have x3:w1.cell? ⟨s+1+1,3,none⟩=some (.slice none 0 0):=hk4.cell 3
 have x4:w1.cell? ⟨s+1+1,4,none⟩=some (.int .i64 (p:Int)):=hk4.cell 4
 have y0:=hk4.frozen 0
 have y1:=hk4.frozen 1
 have y2:=hk4.frozen 2
 have y3:=hk4.frozen 3
 have y4:=hk4.frozen 4
 have hl4:=hk4.lt
 go_wp2_with fail
 obtain ⟨f,hf⟩:∃ f,w1.heap.size=f:=⟨_,rfl⟩
 obtain ⟨xb,hxb⟩:∃ xb,s+1+1=xb:=⟨_,rfl⟩
 obtain ⟨W3,hW3⟩:∃ W3,(((w1.setCell ⟨s+1+1,0,none⟩ (.int .i64 num)).setCell ⟨s+1+1,1,none⟩ (.int .u8 0)).alloc (.cells #[.int .i64 0,.int .i64 0] 32)).alloc (.cells #[.int .i64 0,.int .i64 0] 32)=W3:=⟨_,rfl⟩
 have hC3:Chg (fun k=>k=xb) w1 W3:=by rw [<-hW3,<-hxb];exact ((((Chg.refl (fun k=>k=s+1+1) w1).set_ (.inl rfl) 0 (.int .i64 num)).set_ (.inl rfl) 1 (.int .u8 0)).alloc _).alloc _
 have hX:Blk W3 xb 61 #[.int .i64 num,.int .u8 0,.int .u64 0,.slice none 0 0,.int .i64 (p:Int)]:=by
  rw [<-hW3,<-hxb]
  have:=(((hk4.set_ 0 (.int .i64 num)).set_ 1 (.int .u8 0)).alloc (.cells #[.int .i64 0,.int .i64 0] 32)).alloc (.cells #[.int .i64 0,.int .i64 0] 32)
  simpa using this
 have hG:Blk W3 (f+1) 32 #[.int .i64 0,.int .i64 0]:=by
  rw [<-hW3,<-hf]
  have:=Blk.new (((w1.setCell ⟨s+1+1,0,none⟩ (.int .i64 num)).setCell ⟨s+1+1,1,none⟩ (.int .u8 0)).alloc (.cells #[.int .i64 0,.int .i64 0] 32)) 32 #[.int .i64 0,.int .i64 0]
  simpa [World.setCell] using this
 rw [hW3,hf,hxb]
 have k2:=hC3.blk hk2 (by omega)
 have k3:=hC3.blk hk3 (by omega)
 have hr3:=hrin.chgS hC3 (by omega) (fun hp b o he hS=>HFN.out b (by omega) hp b o he rfl)
 have hO3:=hO.chgS hC3 (fun k hk=>by omega)
 refine (HVL.out _ hr3).mono ?_
 rintro e5 w5 ⟨rfl,hr5,ho5⟩
 have m2:=ho5.blk k2 (by omega)
 have m3:=ho5.blk k3 (by omega)
 have mX:=ho5.blk hX (by omega)
 have mG:=ho5.blk hG (by omega)
 have hO5:=hO3.trans ho5
 have hs3:=ho5.size
 have hGl:=hG.lt
 clear hW3 hk2 hk3 hk4 hX hG k2 k3 hr3 hO3 ho5 hrin hC3 hO HVL x0 x1 x2 x3 x4 y0 y1 y2 y3 y4
 have u0:w5.cell? ⟨xb,0,none⟩=some (.int .i64 num):=mX.cell 0
 have u1:w5.cell? ⟨xb,1,none⟩=some (.int .u8 0):=mX.cell 1
 have u2:w5.cell? ⟨xb,2,none⟩=some (.int .u64 0):=mX.cell 2
 have u3:w5.cell? ⟨xb,3,none⟩=some (.slice none 0 0):=mX.cell 3
 have u4:w5.cell? ⟨xb,4,none⟩=some (.int .i64 (p:Int)):=mX.cell 4
 have z0:=mX.frozen 0
 have z1:=mX.frozen 1
 have z2:=mX.frozen 2
 have z3:=mX.frozen 3
 have z4:=mX.frozen 4
 have d0:w5.cell? ⟨f+1,0,none⟩=some (.int .i64 0):=mG.cell 0
 have d1:w5.cell? ⟨f+1,1,none⟩=some (.int .i64 0):=mG.cell 1
 have r0:=mG.frozen 0
 have r1:=mG.frozen 1
 have a0:w5.cell? ⟨s,0,none⟩=some (.int .i64 0):=m2.cell 0
 have a1:w5.cell? ⟨s,1,none⟩=some (.int .u8 0):=m2.cell 1
 have a2:w5.cell? ⟨s,2,none⟩=some (.int .u64 0):=m2.cell 2
 have a3:w5.cell? ⟨s,3,none⟩=some (.slice none 0 0):=m2.cell 3
 have a4:w5.cell? ⟨s,4,none⟩=some (.int .i64 0):=m2.cell 4
 have g0:=m2.frozen 0
 have g1:=m2.frozen 1
 have g2:=m2.frozen 2
 have g3:=m2.frozen 3
 have g4:=m2.frozen 4
 have b0:w5.cell? ⟨s+1,0,none⟩=some (.int .i64 0):=m3.cell 0
 have b1:w5.cell? ⟨s+1,1,none⟩=some (.int .i64 0):=m3.cell 1
 have i0:=m3.frozen 0
 have i1:=m3.frozen 1
 have hnx:xb ≠ s:=by omega
 have hnx1:xb ≠ s+1:=by omega
 have hng:f+1 ≠ s:=by omega
 have hng1:f+1 ≠ s+1:=by omega
 have hngx:f+1 ≠ xb:=by omega
 have hnxg:xb ≠ f+1:=by omega
 have hl2:=m2.lt
 have hl3:=m3.lt
 have hlX:=mX.lt
 have hlG:=mG.lt
 have HR5:=hid hr5
 have HO5:=hid hO5
 have M2:=hid m2
 have M3:=hid m3
 have MX:=hid mX
 have MG:=hid mG
 clear hr5 hO5 m2 m3 mX mG
 go_wp2_with fail
 obtain ⟨W5,hW5⟩:∃ W5,((w5.setCell ⟨xb,2,none⟩ (.int .u64 (v:Int))).setCell ⟨f+1,0,none⟩ (.int .i64 0)).setCell ⟨f+1,1,none⟩ (.int .i64 0)=W5:=⟨_,rfl⟩
 have hc5:Chg (fun k=>k=xb\/k=f+1) w5 W5:=by rw [<-hW5];exact (((Chg.refl (fun k=>k=xb\/k=f+1) w5).set_ (.inl (.inl rfl)) 2 (.int .u64 (v:Int))).set_ (.inl (.inr rfl)) 0 (.int .i64 0)).set_ (.inl (.inr rfl)) 1 (.int .i64 0)
 rw [hW5]
 have n2:=hc5.blk M2.out (by omega)
 have n3:=hc5.blk M3.out (by omega)
 obtain ⟨hA,hB,hC⟩:=fin52 n2 n3 (.int .i64 num) (.int .u8 0) (.int .u64 (v:Int)) (.slice none 0 0) (.int .i64 (p:Int)) (.int .i64 0) (.int .i64 0)
 clear a0 a1 a2 a3 a4 b0 b1 g0 g1 g2 g3 g4 i0 i1 u0 u1 u2 u3 u4 z0 z1 z2 z3 z4 d0 d1 r0 r1
 generalize World.setCell (World.setCell (World.setCell (World.setCell (World.setCell (World.setCell (World.setCell W5 _ _) _ _) _ _) _ _) _ _) _ _) _ _=WE at *
 have a0:WE.cell? ⟨s,0,none⟩=some (.int .i64 num):=hA.cell 0
 have a1:WE.cell? ⟨s,1,none⟩=some (.int .u8 0):=hA.cell 1
 have a2:WE.cell? ⟨s,2,none⟩=some (.int .u64 (v:Int)):=hA.cell 2
 have a3:WE.cell? ⟨s,3,none⟩=some (.slice none 0 0):=hA.cell 3
 have a4:WE.cell? ⟨s,4,none⟩=some (.int .i64 (p:Int)):=hA.cell 4
 have b0:WE.cell? ⟨s+1,0,none⟩=some (.int .i64 0):=hB.cell 0
 have b1:WE.cell? ⟨s+1,1,none⟩=some (.int .i64 0):=hB.cell 1
 exact bodyPost_ret (v:=.tuple #[.agg #[.int .i64 num,.int .u8 0,.int .u64 (v:Int),.slice none 0 0,.int .i64 (p:Int)],.agg #[.int .i64 0,.int .i64 0]]) (by simp [results,Tryz.results34,go_sem,a0,a1,a2,a3,a4,b0,b1]) rfl ⟨rfl,(HR5.out.chgS hc5 (by omega) (fun hp b o he hS=>hS.elim (fun h=>HFN.out b (by omega) hp b o he rfl) (fun h=>HFN.out b (by omega) hp b o he rfl))).chgS hC (by omega) (fun hp b o he hS=>hS.elim (fun h=>HFN.out b (by omega) hp b o he rfl) (fun h=>HFN.out b (by omega) hp b o he rfl)),(HO5.out.chgS hc5 (fun k hk=>by omega)).chgS hC (fun k hk=>by omega)⟩
theorem rone_0x (num:Int) (p1:Nat) (v er fa nx:Nat) (w:World) (q:Nat) (A:Option Addr) (c:Nat) (bs:List UInt8) (p:Nat) (hh:rHead bs p=(num,0,0,p1)) (hv:rVal 0 bs p1=(v,[],er,nx)) (hfa:flt er p1=fa) (he:er ≠ 0) (h:Rin 80 w q A c bs p) :
  Calls Tryz.prog 34 #[.pointer (some ⟨q,0,none⟩)] w fun e' w'=>e'=.returned (.tuple #[.agg #[.int .i64 0,.int .u8 0,.int .u64 0,.slice none 0 0,.int .i64 0],.agg #[.int .i64 (er:Int),.int .i64 (fa:Int)]])/\Rin 80 w' q A c bs nx/\Only q w w':=by
 have hlt:=h.blk.lt
 have htg:=fun W hb=>rtag_any W q A c bs p (h.below hb)
 have hfn:=fun g (hg:w.heap.size<=g)=>far_new h.sl hg
 have c1:w.cell? ⟨q,1,none⟩=some (.int .i64 (p:Int)):=by simpa using h.blk.cell 1
 have hvl:=fun W hr=>rval0 W q A c bs p1 hr
 simp only [hh,if_true,flt,plc] at htg
 simp only [hv,hfa] at hvl
 have heb:((er:Int) != 0)=true:=by simp;omega
 have HTG:=hid htg
 have HVL:=hid hvl
 have HFN:=hid hfn
 clear htg hvl hfn h hh hv hfa he
 go_enter Tryz.func34,Tryz.ntmps34
 go_wp2_with fail
 generalize hW:World.alloc _ _=W
 have hbW:Below w.heap.size w W:=by rw [<-hW];exact bw_a (bw_a (bw_a (Below.refl _ w) _) _) _
 have hoW:Only q w W:=.of_below hbW
 have hq2:Blk W w.heap.size 61 #[.int .i64 0,.int .u8 0,.int .u64 0,.slice none 0 0,.int .i64 0]:=by rw [<-hW];exact ((Blk.new w _ _).alloc _).alloc _
 have hq3:Blk W (w.heap.size+1) 32 #[.int .i64 0,.int .i64 0]:=by
  rw [<-hW]
  have:=(Blk.new (w.alloc (.cells #[.int .i64 0,.int .u8 0,.int .u64 0,.slice none 0 0,.int .i64 0] 61)) 32 #[.int .i64 0,.int .i64 0]).alloc (.cells #[.int .i64 0,.int .u8 0,.int .u64 0,.slice none 0 0,.int .i64 (p:Int)] 61)
  simpa using this
 have hq4:Blk W (w.heap.size+1+1) 61 #[.int .i64 0,.int .u8 0,.int .u64 0,.slice none 0 0,.int .i64 (p:Int)]:=by
  rw [<-hW]
  have:=Blk.new ((w.alloc (.cells #[.int .i64 0,.int .u8 0,.int .u64 0,.slice none 0 0,.int .i64 0] 61)).alloc (.cells #[.int .i64 0,.int .i64 0] 32)) 61 #[.int .i64 0,.int .u8 0,.int .u64 0,.slice none 0 0,.int .i64 (p:Int)]
  simpa using this
 clear hW
 refine (HTG.out _ hbW).mono ?_
 rintro e1 w1 ⟨rfl,hrin,ho⟩
 have hk2:=ho.blk hq2 (by omega)
 have hk3:=ho.blk hq3 (by omega)
 have hk4:=ho.blk hq4 (by omega)
 have hO:=hoW.trans ho
 clear hq2 hq3 hq4 hoW ho
 generalize hs:w.heap.size=s at *
 clear HTG c1
 have x0:w1.cell? ⟨s+1+1,0,none⟩=some (.int .i64 0):=hk4.cell 0
 have x1:w1.cell? ⟨s+1+1,1,none⟩=some (.int .u8 0):=hk4.cell 1
 have x2:w1.cell? ⟨s+1+1,2,none⟩=some (.int .u64 0):=hk4.cell 2
 have x3:w1.cell? ⟨s+1+1,3,none⟩=some (.slice none 0 0):=hk4.cell 3
 have x4:w1.cell? ⟨s+1+1,4,none⟩=some (.int .i64 (p:Int)):=hk4.cell 4
 have y0:=hk4.frozen 0
 have y1:=hk4.frozen 1
 have y2:=hk4.frozen 2
 have y3:=hk4.frozen 3
 have y4:=hk4.frozen 4
 have hl4:=hk4.lt
 go_wp2_with fail
 obtain ⟨f,hf⟩:∃ f,w1.heap.size=f:=⟨_,rfl⟩
 obtain ⟨xb,hxb⟩:∃ xb,s+1+1=xb:=⟨_,rfl⟩
 obtain ⟨W3,hW3⟩:∃ W3,(((w1.setCell ⟨s+1+1,0,none⟩ (.int .i64 num)).setCell ⟨s+1+1,1,none⟩ (.int .u8 0)).alloc (.cells #[.int .i64 0,.int .i64 0] 32)).alloc (.cells #[.int .i64 0,.int .i64 0] 32)=W3:=⟨_,rfl⟩
 have hC3:Chg (fun k=>k=xb) w1 W3:=by rw [<-hW3,<-hxb];exact ((((Chg.refl (fun k=>k=s+1+1) w1).set_ (.inl rfl) 0 (.int .i64 num)).set_ (.inl rfl) 1 (.int .u8 0)).alloc _).alloc _
 have hX:Blk W3 xb 61 #[.int .i64 num,.int .u8 0,.int .u64 0,.slice none 0 0,.int .i64 (p:Int)]:=by
  rw [<-hW3,<-hxb]
  have:=(((hk4.set_ 0 (.int .i64 num)).set_ 1 (.int .u8 0)).alloc (.cells #[.int .i64 0,.int .i64 0] 32)).alloc (.cells #[.int .i64 0,.int .i64 0] 32)
  simpa using this
 have hG:Blk W3 (f+1) 32 #[.int .i64 0,.int .i64 0]:=by
  rw [<-hW3,<-hf]
  have:=Blk.new (((w1.setCell ⟨s+1+1,0,none⟩ (.int .i64 num)).setCell ⟨s+1+1,1,none⟩ (.int .u8 0)).alloc (.cells #[.int .i64 0,.int .i64 0] 32)) 32 #[.int .i64 0,.int .i64 0]
  simpa [World.setCell] using this
 rw [hW3,hf,hxb]
 have k2:=hC3.blk hk2 (by omega)
 have k3:=hC3.blk hk3 (by omega)
 have hr3:=hrin.chgS hC3 (by omega) (fun hp b o he hS=>HFN.out b (by omega) hp b o he rfl)
 have hO3:=hO.chgS hC3 (fun k hk=>by omega)
 refine (HVL.out _ hr3).mono ?_
 rintro e5 w5 ⟨rfl,hr5,ho5⟩
 have m2:=ho5.blk k2 (by omega)
 have m3:=ho5.blk k3 (by omega)
 have mX:=ho5.blk hX (by omega)
 have mG:=ho5.blk hG (by omega)
 have hO5:=hO3.trans ho5
 have hs3:=ho5.size
 have hGl:=hG.lt
 clear hW3 hk2 hk3 hk4 hX hG k2 k3 hr3 hO3 ho5 hrin hC3 hO HVL x0 x1 x2 x3 x4 y0 y1 y2 y3 y4
 have u0:w5.cell? ⟨xb,0,none⟩=some (.int .i64 num):=mX.cell 0
 have u1:w5.cell? ⟨xb,1,none⟩=some (.int .u8 0):=mX.cell 1
 have u2:w5.cell? ⟨xb,2,none⟩=some (.int .u64 0):=mX.cell 2
 have u3:w5.cell? ⟨xb,3,none⟩=some (.slice none 0 0):=mX.cell 3
 have u4:w5.cell? ⟨xb,4,none⟩=some (.int .i64 (p:Int)):=mX.cell 4
 have z0:=mX.frozen 0
 have z1:=mX.frozen 1
 have z2:=mX.frozen 2
 have z3:=mX.frozen 3
 have z4:=mX.frozen 4
 have d0:w5.cell? ⟨f+1,0,none⟩=some (.int .i64 0):=mG.cell 0
 have d1:w5.cell? ⟨f+1,1,none⟩=some (.int .i64 0):=mG.cell 1
 have r0:=mG.frozen 0
 have r1:=mG.frozen 1
 have a0:w5.cell? ⟨s,0,none⟩=some (.int .i64 0):=m2.cell 0
 have a1:w5.cell? ⟨s,1,none⟩=some (.int .u8 0):=m2.cell 1
 have a2:w5.cell? ⟨s,2,none⟩=some (.int .u64 0):=m2.cell 2
 have a3:w5.cell? ⟨s,3,none⟩=some (.slice none 0 0):=m2.cell 3
 have a4:w5.cell? ⟨s,4,none⟩=some (.int .i64 0):=m2.cell 4
 have g0:=m2.frozen 0
 have g1:=m2.frozen 1
 have g2:=m2.frozen 2
 have g3:=m2.frozen 3
 have g4:=m2.frozen 4
 have b0:w5.cell? ⟨s+1,0,none⟩=some (.int .i64 0):=m3.cell 0
 have b1:w5.cell? ⟨s+1,1,none⟩=some (.int .i64 0):=m3.cell 1
 have i0:=m3.frozen 0
 have i1:=m3.frozen 1
 have hnx:xb ≠ s:=by omega
 have hnx1:xb ≠ s+1:=by omega
 have hng:f+1 ≠ s:=by omega
 have hng1:f+1 ≠ s+1:=by omega
 have hngx:f+1 ≠ xb:=by omega
 have hnxg:xb ≠ f+1:=by omega
 have hl2:=m2.lt
 have hl3:=m3.lt
 have hlX:=mX.lt
 have hlG:=mG.lt
 have HR5:=hid hr5
 have HO5:=hid hO5
 have M2:=hid m2
 have M3:=hid m3
 have MX:=hid mX
 have MG:=hid mG
 clear hr5 hO5 m2 m3 mX mG
 go_wp2_with fail
 obtain ⟨W5,hW5⟩:∃ W5,((w5.setCell ⟨xb,2,none⟩ (.int .u64 (v:Int))).setCell ⟨f+1,0,none⟩ (.int .i64 (er:Int))).setCell ⟨f+1,1,none⟩ (.int .i64 (fa:Int))=W5:=⟨_,rfl⟩
 have hc5:Chg (fun k=>k=xb\/k=f+1) w5 W5:=by rw [<-hW5];exact (((Chg.refl (fun k=>k=xb\/k=f+1) w5).set_ (.inl (.inl rfl)) 2 (.int .u64 (v:Int))).set_ (.inl (.inr rfl)) 0 (.int .i64 (er:Int))).set_ (.inl (.inr rfl)) 1 (.int .i64 (fa:Int))
 have nG:Blk W5 (f+1) 32 #[.int .i64 (er:Int),.int .i64 (fa:Int)]:=by
  rw [<-hW5]
  have:=((MG.out.far (p:=⟨xb,2,none⟩) hngx (.int .u64 (v:Int))).set_ 0 (.int .i64 (er:Int))).set_ 1 (.int .i64 (fa:Int))
  simpa using this
 rw [hW5]
 have n2:=hc5.blk M2.out (by omega)
 have n3:=hc5.blk M3.out (by omega)
 clear a0 a1 a2 a3 a4 b0 b1 g0 g1 g2 g3 g4 i0 i1 u0 u1 u2 u3 u4 z0 z1 z2 z3 z4 d0 d1 r0 r1
 have a0:W5.cell? ⟨s,0,none⟩=some (.int .i64 0):=n2.cell 0
 have a1:W5.cell? ⟨s,1,none⟩=some (.int .u8 0):=n2.cell 1
 have a2:W5.cell? ⟨s,2,none⟩=some (.int .u64 0):=n2.cell 2
 have a3:W5.cell? ⟨s,3,none⟩=some (.slice none 0 0):=n2.cell 3
 have a4:W5.cell? ⟨s,4,none⟩=some (.int .i64 0):=n2.cell 4
 have g0:=n2.frozen 0
 have g1:=n2.frozen 1
 have g2:=n2.frozen 2
 have g3:=n2.frozen 3
 have g4:=n2.frozen 4
 have b0:W5.cell? ⟨s+1,0,none⟩=some (.int .i64 0):=n3.cell 0
 have b1:W5.cell? ⟨s+1,1,none⟩=some (.int .i64 0):=n3.cell 1
 have i0:=n3.frozen 0
 have i1:=n3.frozen 1
 have e0:W5.cell? ⟨f+1,0,none⟩=some (.int .i64 (er:Int)):=nG.cell 0
 have e1:W5.cell? ⟨f+1,1,none⟩=some (.int .i64 (fa:Int)):=nG.cell 1
 have hla:=n2.lt
 have hlb:=n3.lt
 have hlc:=nG.lt
 have HC5:=hid hc5
 clear n2 n3 nG hc5 hW5
 go_region
 all_goals go_wp2_with fail
 all_goals refine bodyPost_ret (v:=.tuple #[.agg #[.int .i64 0,.int .u8 0,.int .u64 0,.slice none 0 0,.int .i64 0],.agg #[.int .i64 (er:Int),.int .i64 (fa:Int)]]) (by simp [results,Tryz.results34,go_sem,a0,a1,a2,a3,a4,b0,b1]) rfl ⟨rfl,?_,?_⟩
 ·exact (HR5.out.chgS HC5.out (by omega) (fun hp b o he hS=>hS.elim (fun h=>HFN.out b (by omega) hp b o he rfl) (fun h=>HFN.out b (by omega) hp b o he rfl))).chgS (chg52 W5 s (s+1) _ _ _ _ _ _ _) (by omega) (fun hp b o he hS=>hS.elim (fun h=>HFN.out b (by omega) hp b o he rfl) (fun h=>HFN.out b (by omega) hp b o he rfl))
 ·exact (HO5.out.chgS HC5.out (fun k hk=>by omega)).chgS (chg52 W5 s (s+1) _ _ _ _ _ _ _) (fun k hk=>by omega)
theorem rone_1 (num:Int) (p1:Nat) (v er fa nx:Nat) (w:World) (q:Nat) (A:Option Addr) (c:Nat) (bs:List UInt8) (p:Nat) (hh:rHead bs p=(num,1,0,p1)) (hv:rVal 1 bs p1=(v,[],er,nx)) (hfa:flt er p1=fa) (he:er=0) (h:Rin 80 w q A c bs p) :
  Calls Tryz.prog 34 #[.pointer (some ⟨q,0,none⟩)] w fun e' w'=>e'=.returned (.tuple #[.agg #[.int .i64 num,.int .u8 1,.int .u64 (v:Int),.slice none 0 0,.int .i64 (p:Int)],.agg #[.int .i64 0,.int .i64 0]])/\Rin 80 w' q A c bs nx/\Only q w w':=by
 have hlt:=h.blk.lt
 have htg:=fun W hb=>rtag_any W q A c bs p (h.below hb)
 have hfn:=fun g (hg:w.heap.size<=g)=>far_new h.sl hg
 have c1:w.cell? ⟨q,1,none⟩=some (.int .i64 (p:Int)):=by simpa using h.blk.cell 1
 have hvl:=fun W hr=>rval1 W q A c bs p1 hr
 simp only [hh,if_true,flt,plc] at htg
 simp only [hv,hfa] at hvl
 subst he
 obtain rfl:fa=0:=by rw [<-hfa];rfl
 have HTG:=hid htg
 have HVL:=hid hvl
 have HFN:=hid hfn
 clear htg hvl hfn h hh hv hfa
 go_enter Tryz.func34,Tryz.ntmps34
 go_wp2_with fail
 generalize hW:World.alloc _ _=W
 have hbW:Below w.heap.size w W:=by rw [<-hW];exact bw_a (bw_a (bw_a (Below.refl _ w) _) _) _
 have hoW:Only q w W:=.of_below hbW
 have hq2:Blk W w.heap.size 61 #[.int .i64 0,.int .u8 0,.int .u64 0,.slice none 0 0,.int .i64 0]:=by rw [<-hW];exact ((Blk.new w _ _).alloc _).alloc _
 have hq3:Blk W (w.heap.size+1) 32 #[.int .i64 0,.int .i64 0]:=by
  rw [<-hW]
  have:=(Blk.new (w.alloc (.cells #[.int .i64 0,.int .u8 0,.int .u64 0,.slice none 0 0,.int .i64 0] 61)) 32 #[.int .i64 0,.int .i64 0]).alloc (.cells #[.int .i64 0,.int .u8 0,.int .u64 0,.slice none 0 0,.int .i64 (p:Int)] 61)
  simpa using this
 have hq4:Blk W (w.heap.size+1+1) 61 #[.int .i64 0,.int .u8 0,.int .u64 0,.slice none 0 0,.int .i64 (p:Int)]:=by
  rw [<-hW]
  have:=Blk.new ((w.alloc (.cells #[.int .i64 0,.int .u8 0,.int .u64 0,.slice none 0 0,.int .i64 0] 61)).alloc (.cells #[.int .i64 0,.int .i64 0] 32)) 61 #[.int .i64 0,.int .u8 0,.int .u64 0,.slice none 0 0,.int .i64 (p:Int)]
  simpa using this
 clear hW
 refine (HTG.out _ hbW).mono ?_
 rintro e1 w1 ⟨rfl,hrin,ho⟩
 have hk2:=ho.blk hq2 (by omega)
 have hk3:=ho.blk hq3 (by omega)
 have hk4:=ho.blk hq4 (by omega)
 have hO:=hoW.trans ho
 clear hq2 hq3 hq4 hoW ho
 generalize hs:w.heap.size=s at *
 clear HTG c1
 have x0:w1.cell? ⟨s+1+1,0,none⟩=some (.int .i64 0):=hk4.cell 0
 have x1:w1.cell? ⟨s+1+1,1,none⟩=some (.int .u8 0):=hk4.cell 1
 have x2:w1.cell? ⟨s+1+1,2,none⟩=some (.int .u64 0):=hk4.cell 2
 have x3:w1.cell? ⟨s+1+1,3,none⟩=some (.slice none 0 0):=hk4.cell 3
 have x4:w1.cell? ⟨s+1+1,4,none⟩=some (.int .i64 (p:Int)):=hk4.cell 4
 have y0:=hk4.frozen 0
 have y1:=hk4.frozen 1
 have y2:=hk4.frozen 2
 have y3:=hk4.frozen 3
 have y4:=hk4.frozen 4
 have hl4:=hk4.lt
 go_wp2_with fail
 obtain ⟨f,hf⟩:∃ f,w1.heap.size=f:=⟨_,rfl⟩
 obtain ⟨xb,hxb⟩:∃ xb,s+1+1=xb:=⟨_,rfl⟩
 obtain ⟨W3,hW3⟩:∃ W3,(((w1.setCell ⟨s+1+1,0,none⟩ (.int .i64 num)).setCell ⟨s+1+1,1,none⟩ (.int .u8 1)).alloc (.cells #[.int .i64 0,.int .i64 0] 32)).alloc (.cells #[.int .i64 0,.int .i64 0] 32)=W3:=⟨_,rfl⟩
 have hC3:Chg (fun k=>k=xb) w1 W3:=by rw [<-hW3,<-hxb];exact ((((Chg.refl (fun k=>k=s+1+1) w1).set_ (.inl rfl) 0 (.int .i64 num)).set_ (.inl rfl) 1 (.int .u8 1)).alloc _).alloc _
 have hX:Blk W3 xb 61 #[.int .i64 num,.int .u8 1,.int .u64 0,.slice none 0 0,.int .i64 (p:Int)]:=by
  rw [<-hW3,<-hxb]
  have:=(((hk4.set_ 0 (.int .i64 num)).set_ 1 (.int .u8 1)).alloc (.cells #[.int .i64 0,.int .i64 0] 32)).alloc (.cells #[.int .i64 0,.int .i64 0] 32)
  simpa using this
 have hG:Blk W3 (f+1) 32 #[.int .i64 0,.int .i64 0]:=by
  rw [<-hW3,<-hf]
  have:=Blk.new (((w1.setCell ⟨s+1+1,0,none⟩ (.int .i64 num)).setCell ⟨s+1+1,1,none⟩ (.int .u8 1)).alloc (.cells #[.int .i64 0,.int .i64 0] 32)) 32 #[.int .i64 0,.int .i64 0]
  simpa [World.setCell] using this
 rw [hW3,hf,hxb]
 have k2:=hC3.blk hk2 (by omega)
 have k3:=hC3.blk hk3 (by omega)
 have hr3:=hrin.chgS hC3 (by omega) (fun hp b o he hS=>HFN.out b (by omega) hp b o he rfl)
 have hO3:=hO.chgS hC3 (fun k hk=>by omega)
 refine (HVL.out _ hr3).mono ?_
 rintro e5 w5 ⟨rfl,hr5,ho5⟩
 have m2:=ho5.blk k2 (by omega)
 have m3:=ho5.blk k3 (by omega)
 have mX:=ho5.blk hX (by omega)
 have mG:=ho5.blk hG (by omega)
 have hO5:=hO3.trans ho5
 have hs3:=ho5.size
 have hGl:=hG.lt
 clear hW3 hk2 hk3 hk4 hX hG k2 k3 hr3 hO3 ho5 hrin hC3 hO HVL x0 x1 x2 x3 x4 y0 y1 y2 y3 y4
 have u0:w5.cell? ⟨xb,0,none⟩=some (.int .i64 num):=mX.cell 0
 have u1:w5.cell? ⟨xb,1,none⟩=some (.int .u8 1):=mX.cell 1
 have u2:w5.cell? ⟨xb,2,none⟩=some (.int .u64 0):=mX.cell 2
 have u3:w5.cell? ⟨xb,3,none⟩=some (.slice none 0 0):=mX.cell 3
 have u4:w5.cell? ⟨xb,4,none⟩=some (.int .i64 (p:Int)):=mX.cell 4
 have z0:=mX.frozen 0
 have z1:=mX.frozen 1
 have z2:=mX.frozen 2
 have z3:=mX.frozen 3
 have z4:=mX.frozen 4
 have d0:w5.cell? ⟨f+1,0,none⟩=some (.int .i64 0):=mG.cell 0
 have d1:w5.cell? ⟨f+1,1,none⟩=some (.int .i64 0):=mG.cell 1
 have r0:=mG.frozen 0
 have r1:=mG.frozen 1
 have a0:w5.cell? ⟨s,0,none⟩=some (.int .i64 0):=m2.cell 0
 have a1:w5.cell? ⟨s,1,none⟩=some (.int .u8 0):=m2.cell 1
 have a2:w5.cell? ⟨s,2,none⟩=some (.int .u64 0):=m2.cell 2
 have a3:w5.cell? ⟨s,3,none⟩=some (.slice none 0 0):=m2.cell 3
 have a4:w5.cell? ⟨s,4,none⟩=some (.int .i64 0):=m2.cell 4
 have g0:=m2.frozen 0
 have g1:=m2.frozen 1
 have g2:=m2.frozen 2
 have g3:=m2.frozen 3
 have g4:=m2.frozen 4
 have b0:w5.cell? ⟨s+1,0,none⟩=some (.int .i64 0):=m3.cell 0
 have b1:w5.cell? ⟨s+1,1,none⟩=some (.int .i64 0):=m3.cell 1
 have i0:=m3.frozen 0
 have i1:=m3.frozen 1
 have hnx:xb ≠ s:=by omega
 have hnx1:xb ≠ s+1:=by omega
 have hng:f+1 ≠ s:=by omega
 have hng1:f+1 ≠ s+1:=by omega
 have hngx:f+1 ≠ xb:=by omega
 have hnxg:xb ≠ f+1:=by omega
 have hl2:=m2.lt
 have hl3:=m3.lt
 have hlX:=mX.lt
 have hlG:=mG.lt
 have HR5:=hid hr5
 have HO5:=hid hO5
 have M2:=hid m2
 have M3:=hid m3
 have MX:=hid mX
 have MG:=hid mG
 clear hr5 hO5 m2 m3 mX mG
 go_wp2_with fail
 obtain ⟨W5,hW5⟩:∃ W5,((w5.setCell ⟨xb,2,none⟩ (.int .u64 (v:Int))).setCell ⟨f+1,0,none⟩ (.int .i64 0)).setCell ⟨f+1,1,none⟩ (.int .i64 0)=W5:=⟨_,rfl⟩
 have hc5:Chg (fun k=>k=xb\/k=f+1) w5 W5:=by rw [<-hW5];exact (((Chg.refl (fun k=>k=xb\/k=f+1) w5).set_ (.inl (.inl rfl)) 2 (.int .u64 (v:Int))).set_ (.inl (.inr rfl)) 0 (.int .i64 0)).set_ (.inl (.inr rfl)) 1 (.int .i64 0)
 rw [hW5]
 have n2:=hc5.blk M2.out (by omega)
 have n3:=hc5.blk M3.out (by omega)
 obtain ⟨hA,hB,hC⟩:=fin52 n2 n3 (.int .i64 num) (.int .u8 1) (.int .u64 (v:Int)) (.slice none 0 0) (.int .i64 (p:Int)) (.int .i64 0) (.int .i64 0)
 clear a0 a1 a2 a3 a4 b0 b1 g0 g1 g2 g3 g4 i0 i1 u0 u1 u2 u3 u4 z0 z1 z2 z3 z4 d0 d1 r0 r1
 generalize World.setCell (World.setCell (World.setCell (World.setCell (World.setCell (World.setCell (World.setCell W5 _ _) _ _) _ _) _ _) _ _) _ _) _ _=WE at *
 have a0:WE.cell? ⟨s,0,none⟩=some (.int .i64 num):=hA.cell 0
 have a1:WE.cell? ⟨s,1,none⟩=some (.int .u8 1):=hA.cell 1
 have a2:WE.cell? ⟨s,2,none⟩=some (.int .u64 (v:Int)):=hA.cell 2
 have a3:WE.cell? ⟨s,3,none⟩=some (.slice none 0 0):=hA.cell 3
 have a4:WE.cell? ⟨s,4,none⟩=some (.int .i64 (p:Int)):=hA.cell 4
 have b0:WE.cell? ⟨s+1,0,none⟩=some (.int .i64 0):=hB.cell 0
 have b1:WE.cell? ⟨s+1,1,none⟩=some (.int .i64 0):=hB.cell 1
 exact bodyPost_ret (v:=.tuple #[.agg #[.int .i64 num,.int .u8 1,.int .u64 (v:Int),.slice none 0 0,.int .i64 (p:Int)],.agg #[.int .i64 0,.int .i64 0]]) (by simp [results,Tryz.results34,go_sem,a0,a1,a2,a3,a4,b0,b1]) rfl ⟨rfl,(HR5.out.chgS hc5 (by omega) (fun hp b o he hS=>hS.elim (fun h=>HFN.out b (by omega) hp b o he rfl) (fun h=>HFN.out b (by omega) hp b o he rfl))).chgS hC (by omega) (fun hp b o he hS=>hS.elim (fun h=>HFN.out b (by omega) hp b o he rfl) (fun h=>HFN.out b (by omega) hp b o he rfl)),(HO5.out.chgS hc5 (fun k hk=>by omega)).chgS hC (fun k hk=>by omega)⟩
theorem rone_1x (num:Int) (p1:Nat) (v er fa nx:Nat) (w:World) (q:Nat) (A:Option Addr) (c:Nat) (bs:List UInt8) (p:Nat) (hh:rHead bs p=(num,1,0,p1)) (hv:rVal 1 bs p1=(v,[],er,nx)) (hfa:flt er p1=fa) (he:er ≠ 0) (h:Rin 80 w q A c bs p) :
  Calls Tryz.prog 34 #[.pointer (some ⟨q,0,none⟩)] w fun e' w'=>e'=.returned (.tuple #[.agg #[.int .i64 0,.int .u8 0,.int .u64 0,.slice none 0 0,.int .i64 0],.agg #[.int .i64 (er:Int),.int .i64 (fa:Int)]])/\Rin 80 w' q A c bs nx/\Only q w w':=by
 have hlt:=h.blk.lt
 have htg:=fun W hb=>rtag_any W q A c bs p (h.below hb)
 have hfn:=fun g (hg:w.heap.size<=g)=>far_new h.sl hg
 have c1:w.cell? ⟨q,1,none⟩=some (.int .i64 (p:Int)):=by simpa using h.blk.cell 1
 have hvl:=fun W hr=>rval1 W q A c bs p1 hr
 simp only [hh,if_true,flt,plc] at htg
 simp only [hv,hfa] at hvl
 have heb:((er:Int) != 0)=true:=by simp;omega
 have HTG:=hid htg
 have HVL:=hid hvl
 have HFN:=hid hfn
 clear htg hvl hfn h hh hv hfa he
 go_enter Tryz.func34,Tryz.ntmps34
 go_wp2_with fail
 generalize hW:World.alloc _ _=W
 have hbW:Below w.heap.size w W:=by rw [<-hW];exact bw_a (bw_a (bw_a (Below.refl _ w) _) _) _
 have hoW:Only q w W:=.of_below hbW
 have hq2:Blk W w.heap.size 61 #[.int .i64 0,.int .u8 0,.int .u64 0,.slice none 0 0,.int .i64 0]:=by rw [<-hW];exact ((Blk.new w _ _).alloc _).alloc _
 have hq3:Blk W (w.heap.size+1) 32 #[.int .i64 0,.int .i64 0]:=by
  rw [<-hW]
  have:=(Blk.new (w.alloc (.cells #[.int .i64 0,.int .u8 0,.int .u64 0,.slice none 0 0,.int .i64 0] 61)) 32 #[.int .i64 0,.int .i64 0]).alloc (.cells #[.int .i64 0,.int .u8 0,.int .u64 0,.slice none 0 0,.int .i64 (p:Int)] 61)
  simpa using this
 have hq4:Blk W (w.heap.size+1+1) 61 #[.int .i64 0,.int .u8 0,.int .u64 0,.slice none 0 0,.int .i64 (p:Int)]:=by
  rw [<-hW]
  have:=Blk.new ((w.alloc (.cells #[.int .i64 0,.int .u8 0,.int .u64 0,.slice none 0 0,.int .i64 0] 61)).alloc (.cells #[.int .i64 0,.int .i64 0] 32)) 61 #[.int .i64 0,.int .u8 0,.int .u64 0,.slice none 0 0,.int .i64 (p:Int)]
  simpa using this
 clear hW
 refine (HTG.out _ hbW).mono ?_
 rintro e1 w1 ⟨rfl,hrin,ho⟩
 have hk2:=ho.blk hq2 (by omega)
 have hk3:=ho.blk hq3 (by omega)
 have hk4:=ho.blk hq4 (by omega)
 have hO:=hoW.trans ho
 clear hq2 hq3 hq4 hoW ho
 generalize hs:w.heap.size=s at *
 clear HTG c1
 have x0:w1.cell? ⟨s+1+1,0,none⟩=some (.int .i64 0):=hk4.cell 0
 have x1:w1.cell? ⟨s+1+1,1,none⟩=some (.int .u8 0):=hk4.cell 1
 have x2:w1.cell? ⟨s+1+1,2,none⟩=some (.int .u64 0):=hk4.cell 2
 have x3:w1.cell? ⟨s+1+1,3,none⟩=some (.slice none 0 0):=hk4.cell 3
 have x4:w1.cell? ⟨s+1+1,4,none⟩=some (.int .i64 (p:Int)):=hk4.cell 4
 have y0:=hk4.frozen 0
 have y1:=hk4.frozen 1
 have y2:=hk4.frozen 2
 have y3:=hk4.frozen 3
 have y4:=hk4.frozen 4
 have hl4:=hk4.lt
 go_wp2_with fail
 obtain ⟨f,hf⟩:∃ f,w1.heap.size=f:=⟨_,rfl⟩
 obtain ⟨xb,hxb⟩:∃ xb,s+1+1=xb:=⟨_,rfl⟩
 obtain ⟨W3,hW3⟩:∃ W3,(((w1.setCell ⟨s+1+1,0,none⟩ (.int .i64 num)).setCell ⟨s+1+1,1,none⟩ (.int .u8 1)).alloc (.cells #[.int .i64 0,.int .i64 0] 32)).alloc (.cells #[.int .i64 0,.int .i64 0] 32)=W3:=⟨_,rfl⟩
 have hC3:Chg (fun k=>k=xb) w1 W3:=by rw [<-hW3,<-hxb];exact ((((Chg.refl (fun k=>k=s+1+1) w1).set_ (.inl rfl) 0 (.int .i64 num)).set_ (.inl rfl) 1 (.int .u8 1)).alloc _).alloc _
 have hX:Blk W3 xb 61 #[.int .i64 num,.int .u8 1,.int .u64 0,.slice none 0 0,.int .i64 (p:Int)]:=by
  rw [<-hW3,<-hxb]
  have:=(((hk4.set_ 0 (.int .i64 num)).set_ 1 (.int .u8 1)).alloc (.cells #[.int .i64 0,.int .i64 0] 32)).alloc (.cells #[.int .i64 0,.int .i64 0] 32)
  simpa using this
 have hG:Blk W3 (f+1) 32 #[.int .i64 0,.int .i64 0]:=by
  rw [<-hW3,<-hf]
  have:=Blk.new (((w1.setCell ⟨s+1+1,0,none⟩ (.int .i64 num)).setCell ⟨s+1+1,1,none⟩ (.int .u8 1)).alloc (.cells #[.int .i64 0,.int .i64 0] 32)) 32 #[.int .i64 0,.int .i64 0]
  simpa [World.setCell] using this
 rw [hW3,hf,hxb]
 have k2:=hC3.blk hk2 (by omega)
 have k3:=hC3.blk hk3 (by omega)
 have hr3:=hrin.chgS hC3 (by omega) (fun hp b o he hS=>HFN.out b (by omega) hp b o he rfl)
 have hO3:=hO.chgS hC3 (fun k hk=>by omega)
 refine (HVL.out _ hr3).mono ?_
 rintro e5 w5 ⟨rfl,hr5,ho5⟩
 have m2:=ho5.blk k2 (by omega)
 have m3:=ho5.blk k3 (by omega)
 have mX:=ho5.blk hX (by omega)
 have mG:=ho5.blk hG (by omega)
 have hO5:=hO3.trans ho5
 have hs3:=ho5.size
 have hGl:=hG.lt
 clear hW3 hk2 hk3 hk4 hX hG k2 k3 hr3 hO3 ho5 hrin hC3 hO HVL x0 x1 x2 x3 x4 y0 y1 y2 y3 y4
 have u0:w5.cell? ⟨xb,0,none⟩=some (.int .i64 num):=mX.cell 0
 have u1:w5.cell? ⟨xb,1,none⟩=some (.int .u8 1):=mX.cell 1
 have u2:w5.cell? ⟨xb,2,none⟩=some (.int .u64 0):=mX.cell 2
 have u3:w5.cell? ⟨xb,3,none⟩=some (.slice none 0 0):=mX.cell 3
 have u4:w5.cell? ⟨xb,4,none⟩=some (.int .i64 (p:Int)):=mX.cell 4
 have z0:=mX.frozen 0
 have z1:=mX.frozen 1
 have z2:=mX.frozen 2
 have z3:=mX.frozen 3
 have z4:=mX.frozen 4
 have d0:w5.cell? ⟨f+1,0,none⟩=some (.int .i64 0):=mG.cell 0
 have d1:w5.cell? ⟨f+1,1,none⟩=some (.int .i64 0):=mG.cell 1
 have r0:=mG.frozen 0
 have r1:=mG.frozen 1
 have a0:w5.cell? ⟨s,0,none⟩=some (.int .i64 0):=m2.cell 0
 have a1:w5.cell? ⟨s,1,none⟩=some (.int .u8 0):=m2.cell 1
 have a2:w5.cell? ⟨s,2,none⟩=some (.int .u64 0):=m2.cell 2
 have a3:w5.cell? ⟨s,3,none⟩=some (.slice none 0 0):=m2.cell 3
 have a4:w5.cell? ⟨s,4,none⟩=some (.int .i64 0):=m2.cell 4
 have g0:=m2.frozen 0
 have g1:=m2.frozen 1
 have g2:=m2.frozen 2
 have g3:=m2.frozen 3
 have g4:=m2.frozen 4
 have b0:w5.cell? ⟨s+1,0,none⟩=some (.int .i64 0):=m3.cell 0
 have b1:w5.cell? ⟨s+1,1,none⟩=some (.int .i64 0):=m3.cell 1
 have i0:=m3.frozen 0
 have i1:=m3.frozen 1
 have hnx:xb ≠ s:=by omega
 have hnx1:xb ≠ s+1:=by omega
 have hng:f+1 ≠ s:=by omega
 have hng1:f+1 ≠ s+1:=by omega
 have hngx:f+1 ≠ xb:=by omega
 have hnxg:xb ≠ f+1:=by omega
 have hl2:=m2.lt
 have hl3:=m3.lt
 have hlX:=mX.lt
 have hlG:=mG.lt
 have HR5:=hid hr5
 have HO5:=hid hO5
 have M2:=hid m2
 have M3:=hid m3
 have MX:=hid mX
 have MG:=hid mG
 clear hr5 hO5 m2 m3 mX mG
 go_wp2_with fail
 obtain ⟨W5,hW5⟩:∃ W5,((w5.setCell ⟨xb,2,none⟩ (.int .u64 (v:Int))).setCell ⟨f+1,0,none⟩ (.int .i64 (er:Int))).setCell ⟨f+1,1,none⟩ (.int .i64 (fa:Int))=W5:=⟨_,rfl⟩
 have hc5:Chg (fun k=>k=xb\/k=f+1) w5 W5:=by rw [<-hW5];exact (((Chg.refl (fun k=>k=xb\/k=f+1) w5).set_ (.inl (.inl rfl)) 2 (.int .u64 (v:Int))).set_ (.inl (.inr rfl)) 0 (.int .i64 (er:Int))).set_ (.inl (.inr rfl)) 1 (.int .i64 (fa:Int))
 have nG:Blk W5 (f+1) 32 #[.int .i64 (er:Int),.int .i64 (fa:Int)]:=by
  rw [<-hW5]
  have:=((MG.out.far (p:=⟨xb,2,none⟩) hngx (.int .u64 (v:Int))).set_ 0 (.int .i64 (er:Int))).set_ 1 (.int .i64 (fa:Int))
  simpa using this
 rw [hW5]
 have n2:=hc5.blk M2.out (by omega)
 have n3:=hc5.blk M3.out (by omega)
 clear a0 a1 a2 a3 a4 b0 b1 g0 g1 g2 g3 g4 i0 i1 u0 u1 u2 u3 u4 z0 z1 z2 z3 z4 d0 d1 r0 r1
 have a0:W5.cell? ⟨s,0,none⟩=some (.int .i64 0):=n2.cell 0
 have a1:W5.cell? ⟨s,1,none⟩=some (.int .u8 0):=n2.cell 1
 have a2:W5.cell? ⟨s,2,none⟩=some (.int .u64 0):=n2.cell 2
 have a3:W5.cell? ⟨s,3,none⟩=some (.slice none 0 0):=n2.cell 3
 have a4:W5.cell? ⟨s,4,none⟩=some (.int .i64 0):=n2.cell 4
 have g0:=n2.frozen 0
 have g1:=n2.frozen 1
 have g2:=n2.frozen 2
 have g3:=n2.frozen 3
 have g4:=n2.frozen 4
 have b0:W5.cell? ⟨s+1,0,none⟩=some (.int .i64 0):=n3.cell 0
 have b1:W5.cell? ⟨s+1,1,none⟩=some (.int .i64 0):=n3.cell 1
 have i0:=n3.frozen 0
 have i1:=n3.frozen 1
 have e0:W5.cell? ⟨f+1,0,none⟩=some (.int .i64 (er:Int)):=nG.cell 0
 have e1:W5.cell? ⟨f+1,1,none⟩=some (.int .i64 (fa:Int)):=nG.cell 1
 have hla:=n2.lt
 have hlb:=n3.lt
 have hlc:=nG.lt
 have HC5:=hid hc5
 clear n2 n3 nG hc5 hW5
 go_region
 all_goals go_wp2_with fail
 all_goals refine bodyPost_ret (v:=.tuple #[.agg #[.int .i64 0,.int .u8 0,.int .u64 0,.slice none 0 0,.int .i64 0],.agg #[.int .i64 (er:Int),.int .i64 (fa:Int)]]) (by simp [results,Tryz.results34,go_sem,a0,a1,a2,a3,a4,b0,b1]) rfl ⟨rfl,?_,?_⟩
 ·exact (HR5.out.chgS HC5.out (by omega) (fun hp b o he hS=>hS.elim (fun h=>HFN.out b (by omega) hp b o he rfl) (fun h=>HFN.out b (by omega) hp b o he rfl))).chgS (chg52 W5 s (s+1) _ _ _ _ _ _ _) (by omega) (fun hp b o he hS=>hS.elim (fun h=>HFN.out b (by omega) hp b o he rfl) (fun h=>HFN.out b (by omega) hp b o he rfl))
 ·exact (HO5.out.chgS HC5.out (fun k hk=>by omega)).chgS (chg52 W5 s (s+1) _ _ _ _ _ _ _) (fun k hk=>by omega)
theorem rone_2 (num:Int) (p1:Nat) (er fa nx:Nat) (xs:List UInt8) (xl:Nat) (w:World) (q:Nat) (A:Option Addr) (c:Nat) (bs:List UInt8) (p:Nat) (hbl:bs.length<=100000) (hh:rHead bs p=(num,2,0,p1)) (hv:rVal 2 bs p1=(0,xs,er,nx)) (hxl:xs.length=xl) (hfa:flt er p1=fa) (he:er=0) (h:Rin 80 w q A c bs p) :
  Calls Tryz.prog 34 #[.pointer (some ⟨q,0,none⟩)] w fun e' w'=>∃ A' c',e'=.returned (.tuple #[.agg #[.int .i64 num,.int .u8 2,.int .u64 0,.slice A' xl c',.int .i64 (p:Int)],.agg #[.int .i64 0,.int .i64 0]])/\Sl w' A' c' (xs.map bv)/\(∀ g,g < w.heap.size->Far A' xl g)/\Rin 80 w' q A c bs nx/\Only q w w':=by
 have hlt:=h.blk.lt
 have htg:=fun W hb=>rtag_any W q A c bs p (h.below hb)
 have hfn:=fun g (hg:w.heap.size<=g)=>far_new h.sl hg
 have c1:w.cell? ⟨q,1,none⟩=some (.int .i64 (p:Int)):=by simpa using h.blk.cell 1
 have hvl:=fun W hr=>rval2 W q A c bs p1 hbl hr
 simp only [hh,if_true,flt,plc] at htg
 simp only [hv,hfa,hxl] at hvl
 subst he
 obtain rfl:fa=0:=by rw [<-hfa];rfl
 have HXL:=hid hxl
 have HTG:=hid htg
 have HVL:=hid hvl
 have HFN:=hid hfn
 clear htg hvl hfn h hh hv hfa hxl
 go_enter Tryz.func34,Tryz.ntmps34
 go_wp2_with fail
 generalize hW:World.alloc _ _=W
 have hbW:Below w.heap.size w W:=by rw [<-hW];exact bw_a (bw_a (bw_a (Below.refl _ w) _) _) _
 have hoW:Only q w W:=.of_below hbW
 have hq2:Blk W w.heap.size 61 #[.int .i64 0,.int .u8 0,.int .u64 0,.slice none 0 0,.int .i64 0]:=by rw [<-hW];exact ((Blk.new w _ _).alloc _).alloc _
 have hq3:Blk W (w.heap.size+1) 32 #[.int .i64 0,.int .i64 0]:=by
  rw [<-hW]
  have:=(Blk.new (w.alloc (.cells #[.int .i64 0,.int .u8 0,.int .u64 0,.slice none 0 0,.int .i64 0] 61)) 32 #[.int .i64 0,.int .i64 0]).alloc (.cells #[.int .i64 0,.int .u8 0,.int .u64 0,.slice none 0 0,.int .i64 (p:Int)] 61)
  simpa using this
 have hq4:Blk W (w.heap.size+1+1) 61 #[.int .i64 0,.int .u8 0,.int .u64 0,.slice none 0 0,.int .i64 (p:Int)]:=by
  rw [<-hW]
  have:=Blk.new ((w.alloc (.cells #[.int .i64 0,.int .u8 0,.int .u64 0,.slice none 0 0,.int .i64 0] 61)).alloc (.cells #[.int .i64 0,.int .i64 0] 32)) 61 #[.int .i64 0,.int .u8 0,.int .u64 0,.slice none 0 0,.int .i64 (p:Int)]
  simpa using this
 clear hW
 refine (HTG.out _ hbW).mono ?_
 rintro e1 w1 ⟨rfl,hrin,ho⟩
 have hk2:=ho.blk hq2 (by omega)
 have hk3:=ho.blk hq3 (by omega)
 have hk4:=ho.blk hq4 (by omega)
 have hO:=hoW.trans ho
 clear hq2 hq3 hq4 hoW ho
 generalize hs:w.heap.size=s at *
 clear HTG c1
 have x0:w1.cell? ⟨s+1+1,0,none⟩=some (.int .i64 0):=hk4.cell 0
 have x1:w1.cell? ⟨s+1+1,1,none⟩=some (.int .u8 0):=hk4.cell 1
 have x2:w1.cell? ⟨s+1+1,2,none⟩=some (.int .u64 0):=hk4.cell 2
 have x3:w1.cell? ⟨s+1+1,3,none⟩=some (.slice none 0 0):=hk4.cell 3
 have x4:w1.cell? ⟨s+1+1,4,none⟩=some (.int .i64 (p:Int)):=hk4.cell 4
 have y0:=hk4.frozen 0
 have y1:=hk4.frozen 1
 have y2:=hk4.frozen 2
 have y3:=hk4.frozen 3
 have y4:=hk4.frozen 4
 have hl4:=hk4.lt
 go_wp2_with fail
 obtain ⟨f,hf⟩:∃ f,w1.heap.size=f:=⟨_,rfl⟩
 obtain ⟨xb,hxb⟩:∃ xb,s+1+1=xb:=⟨_,rfl⟩
 obtain ⟨W3,hW3⟩:∃ W3,(((w1.setCell ⟨s+1+1,0,none⟩ (.int .i64 num)).setCell ⟨s+1+1,1,none⟩ (.int .u8 2)).alloc (.cells #[.int .i64 0,.int .i64 0] 32)).alloc (.cells #[.int .i64 0,.int .i64 0] 32)=W3:=⟨_,rfl⟩
 have hC3:Chg (fun k=>k=xb) w1 W3:=by rw [<-hW3,<-hxb];exact ((((Chg.refl (fun k=>k=s+1+1) w1).set_ (.inl rfl) 0 (.int .i64 num)).set_ (.inl rfl) 1 (.int .u8 2)).alloc _).alloc _
 have hX:Blk W3 xb 61 #[.int .i64 num,.int .u8 2,.int .u64 0,.slice none 0 0,.int .i64 (p:Int)]:=by
  rw [<-hW3,<-hxb]
  have:=(((hk4.set_ 0 (.int .i64 num)).set_ 1 (.int .u8 2)).alloc (.cells #[.int .i64 0,.int .i64 0] 32)).alloc (.cells #[.int .i64 0,.int .i64 0] 32)
  simpa using this
 have hG:Blk W3 (f+1) 32 #[.int .i64 0,.int .i64 0]:=by
  rw [<-hW3,<-hf]
  have:=Blk.new (((w1.setCell ⟨s+1+1,0,none⟩ (.int .i64 num)).setCell ⟨s+1+1,1,none⟩ (.int .u8 2)).alloc (.cells #[.int .i64 0,.int .i64 0] 32)) 32 #[.int .i64 0,.int .i64 0]
  simpa [World.setCell] using this
 rw [hW3,hf,hxb]
 have k2:=hC3.blk hk2 (by omega)
 have k3:=hC3.blk hk3 (by omega)
 have hr3:=hrin.chgS hC3 (by omega) (fun hp b o he hS=>HFN.out b (by omega) hp b o he rfl)
 have hO3:=hO.chgS hC3 (fun k hk=>by omega)
 refine (HVL.out _ hr3).mono ?_
 rintro e5 w5 ⟨A9,c9,rfl,hs9,hf9,hr5,ho5⟩
 have m2:=ho5.blk k2 (by omega)
 have m3:=ho5.blk k3 (by omega)
 have mX:=ho5.blk hX (by omega)
 have mG:=ho5.blk hG (by omega)
 have hO5:=hO3.trans ho5
 have hs3:=ho5.size
 have hGl:=hG.lt
 have hfar:∀ g,g < w.heap.size->Far A9 xl g:=fun g hg=>hf9 g (by have:=hO3.size;omega)
 clear hW3 hk2 hk3 hk4 hX hG k2 k3 hr3 hO3 ho5 hrin hC3 hO HVL x0 x1 x2 x3 x4 y0 y1 y2 y3 y4
 have u0:w5.cell? ⟨xb,0,none⟩=some (.int .i64 num):=mX.cell 0
 have u1:w5.cell? ⟨xb,1,none⟩=some (.int .u8 2):=mX.cell 1
 have u2:w5.cell? ⟨xb,2,none⟩=some (.int .u64 0):=mX.cell 2
 have u3:w5.cell? ⟨xb,3,none⟩=some (.slice none 0 0):=mX.cell 3
 have u4:w5.cell? ⟨xb,4,none⟩=some (.int .i64 (p:Int)):=mX.cell 4
 have z0:=mX.frozen 0
 have z1:=mX.frozen 1
 have z2:=mX.frozen 2
 have z3:=mX.frozen 3
 have z4:=mX.frozen 4
 have d0:w5.cell? ⟨f+1,0,none⟩=some (.int .i64 0):=mG.cell 0
 have d1:w5.cell? ⟨f+1,1,none⟩=some (.int .i64 0):=mG.cell 1
 have r0:=mG.frozen 0
 have r1:=mG.frozen 1
 have a0:w5.cell? ⟨s,0,none⟩=some (.int .i64 0):=m2.cell 0
 have a1:w5.cell? ⟨s,1,none⟩=some (.int .u8 0):=m2.cell 1
 have a2:w5.cell? ⟨s,2,none⟩=some (.int .u64 0):=m2.cell 2
 have a3:w5.cell? ⟨s,3,none⟩=some (.slice none 0 0):=m2.cell 3
 have a4:w5.cell? ⟨s,4,none⟩=some (.int .i64 0):=m2.cell 4
 have g0:=m2.frozen 0
 have g1:=m2.frozen 1
 have g2:=m2.frozen 2
 have g3:=m2.frozen 3
 have g4:=m2.frozen 4
 have b0:w5.cell? ⟨s+1,0,none⟩=some (.int .i64 0):=m3.cell 0
 have b1:w5.cell? ⟨s+1,1,none⟩=some (.int .i64 0):=m3.cell 1
 have i0:=m3.frozen 0
 have i1:=m3.frozen 1
 have hnx:xb ≠ s:=by omega
 have hnx1:xb ≠ s+1:=by omega
 have hng:f+1 ≠ s:=by omega
 have hng1:f+1 ≠ s+1:=by omega
 have hngx:f+1 ≠ xb:=by omega
 have hnxg:xb ≠ f+1:=by omega
 have hl2:=m2.lt
 have hl3:=m3.lt
 have hlX:=mX.lt
 have hlG:=mG.lt
 have HR5:=hid hr5
 have HO5:=hid hO5
 have M2:=hid m2
 have M3:=hid m3
 have MX:=hid mX
 have MG:=hid mG
 have HS9:=hid hs9
 have HF9:=hid hf9
 have HFAR:=hid hfar
 clear hr5 hO5 m2 m3 mX mG hs9 hf9 hfar
 go_wp2_with fail
 obtain ⟨W5,hW5⟩:∃ W5,((w5.setCell ⟨xb,3,none⟩ (.slice A9 xl c9)).setCell ⟨f+1,0,none⟩ (.int .i64 0)).setCell ⟨f+1,1,none⟩ (.int .i64 0)=W5:=⟨_,rfl⟩
 have hc5:Chg (fun k=>k=xb\/k=f+1) w5 W5:=by rw [<-hW5];exact (((Chg.refl (fun k=>k=xb\/k=f+1) w5).set_ (.inl (.inl rfl)) 3 (.slice A9 xl c9)).set_ (.inl (.inr rfl)) 0 (.int .i64 0)).set_ (.inl (.inr rfl)) 1 (.int .i64 0)
 rw [hW5]
 have n2:=hc5.blk M2.out (by omega)
 have n3:=hc5.blk M3.out (by omega)
 obtain ⟨hA,hB,hC⟩:=fin52 n2 n3 (.int .i64 num) (.int .u8 2) (.int .u64 0) (.slice A9 xl c9) (.int .i64 (p:Int)) (.int .i64 0) (.int .i64 0)
 clear a0 a1 a2 a3 a4 b0 b1 g0 g1 g2 g3 g4 i0 i1 u0 u1 u2 u3 u4 z0 z1 z2 z3 z4 d0 d1 r0 r1
 generalize World.setCell (World.setCell (World.setCell (World.setCell (World.setCell (World.setCell (World.setCell W5 _ _) _ _) _ _) _ _) _ _) _ _) _ _=WE at *
 have a0:WE.cell? ⟨s,0,none⟩=some (.int .i64 num):=hA.cell 0
 have a1:WE.cell? ⟨s,1,none⟩=some (.int .u8 2):=hA.cell 1
 have a2:WE.cell? ⟨s,2,none⟩=some (.int .u64 0):=hA.cell 2
 have a3:WE.cell? ⟨s,3,none⟩=some (.slice A9 xl c9):=hA.cell 3
 have a4:WE.cell? ⟨s,4,none⟩=some (.int .i64 (p:Int)):=hA.cell 4
 have b0:WE.cell? ⟨s+1,0,none⟩=some (.int .i64 0):=hB.cell 0
 have b1:WE.cell? ⟨s+1,1,none⟩=some (.int .i64 0):=hB.cell 1
 exact bodyPost_ret (v:=.tuple #[.agg #[.int .i64 num,.int .u8 2,.int .u64 0,.slice A9 xl c9,.int .i64 (p:Int)],.agg #[.int .i64 0,.int .i64 0]]) (by simp [results,Tryz.results34,go_sem,a0,a1,a2,a3,a4,b0,b1]) rfl ⟨A9,c9,rfl,hC.sl (hc5.sl HS9.out (n:=xl) (fun hp b o he hS=>hS.elim (fun h=>HF9.out b (by omega) hp b o he rfl) (fun h=>HF9.out b (by omega) hp b o he rfl)) (by rw [List.length_map];exact HXL.out)) (n:=xl) (fun hp b o he hS=>hS.elim (fun h=>HF9.out b (by omega) hp b o he rfl) (fun h=>HF9.out b (by omega) hp b o he rfl)) (by rw [List.length_map];exact HXL.out),HFAR.out,(HR5.out.chgS hc5 (by omega) (fun hp b o he hS=>hS.elim (fun h=>HFN.out b (by omega) hp b o he rfl) (fun h=>HFN.out b (by omega) hp b o he rfl))).chgS hC (by omega) (fun hp b o he hS=>hS.elim (fun h=>HFN.out b (by omega) hp b o he rfl) (fun h=>HFN.out b (by omega) hp b o he rfl)),(HO5.out.chgS hc5 (fun k hk=>by omega)).chgS hC (fun k hk=>by omega)⟩
theorem rone_2x (num:Int) (p1:Nat) (er fa nx:Nat) (xs:List UInt8) (xl:Nat) (w:World) (q:Nat) (A:Option Addr) (c:Nat) (bs:List UInt8) (p:Nat) (hbl:bs.length<=100000) (hh:rHead bs p=(num,2,0,p1)) (hv:rVal 2 bs p1=(0,xs,er,nx)) (hxl:xs.length=xl) (hfa:flt er p1=fa) (he:er ≠ 0) (h:Rin 80 w q A c bs p) :
  Calls Tryz.prog 34 #[.pointer (some ⟨q,0,none⟩)] w fun e' w'=>e'=.returned (.tuple #[.agg #[.int .i64 0,.int .u8 0,.int .u64 0,.slice none 0 0,.int .i64 0],.agg #[.int .i64 (er:Int),.int .i64 (fa:Int)]])/\Rin 80 w' q A c bs nx/\Only q w w':=by
 have hlt:=h.blk.lt
 have htg:=fun W hb=>rtag_any W q A c bs p (h.below hb)
 have hfn:=fun g (hg:w.heap.size<=g)=>far_new h.sl hg
 have c1:w.cell? ⟨q,1,none⟩=some (.int .i64 (p:Int)):=by simpa using h.blk.cell 1
 have hvl:=fun W hr=>rval2 W q A c bs p1 hbl hr
 simp only [hh,if_true,flt,plc] at htg
 simp only [hv,hfa,hxl] at hvl
 have heb:((er:Int) != 0)=true:=by simp;omega
 have HXL:=hid hxl
 have HTG:=hid htg
 have HVL:=hid hvl
 have HFN:=hid hfn
 clear htg hvl hfn h hh hv hfa hxl he
 go_enter Tryz.func34,Tryz.ntmps34
 go_wp2_with fail
 generalize hW:World.alloc _ _=W
 have hbW:Below w.heap.size w W:=by rw [<-hW];exact bw_a (bw_a (bw_a (Below.refl _ w) _) _) _
 have hoW:Only q w W:=.of_below hbW
 have hq2:Blk W w.heap.size 61 #[.int .i64 0,.int .u8 0,.int .u64 0,.slice none 0 0,.int .i64 0]:=by rw [<-hW];exact ((Blk.new w _ _).alloc _).alloc _
 have hq3:Blk W (w.heap.size+1) 32 #[.int .i64 0,.int .i64 0]:=by
  rw [<-hW]
  have:=(Blk.new (w.alloc (.cells #[.int .i64 0,.int .u8 0,.int .u64 0,.slice none 0 0,.int .i64 0] 61)) 32 #[.int .i64 0,.int .i64 0]).alloc (.cells #[.int .i64 0,.int .u8 0,.int .u64 0,.slice none 0 0,.int .i64 (p:Int)] 61)
  simpa using this
 have hq4:Blk W (w.heap.size+1+1) 61 #[.int .i64 0,.int .u8 0,.int .u64 0,.slice none 0 0,.int .i64 (p:Int)]:=by
  rw [<-hW]
  have:=Blk.new ((w.alloc (.cells #[.int .i64 0,.int .u8 0,.int .u64 0,.slice none 0 0,.int .i64 0] 61)).alloc (.cells #[.int .i64 0,.int .i64 0] 32)) 61 #[.int .i64 0,.int .u8 0,.int .u64 0,.slice none 0 0,.int .i64 (p:Int)]
  simpa using this
 clear hW
 refine (HTG.out _ hbW).mono ?_
 rintro e1 w1 ⟨rfl,hrin,ho⟩
 have hk2:=ho.blk hq2 (by omega)
 have hk3:=ho.blk hq3 (by omega)
 have hk4:=ho.blk hq4 (by omega)
 have hO:=hoW.trans ho
 clear hq2 hq3 hq4 hoW ho
 generalize hs:w.heap.size=s at *
 clear HTG c1
 have x0:w1.cell? ⟨s+1+1,0,none⟩=some (.int .i64 0):=hk4.cell 0
 have x1:w1.cell? ⟨s+1+1,1,none⟩=some (.int .u8 0):=hk4.cell 1
 have x2:w1.cell? ⟨s+1+1,2,none⟩=some (.int .u64 0):=hk4.cell 2
 have x3:w1.cell? ⟨s+1+1,3,none⟩=some (.slice none 0 0):=hk4.cell 3
 have x4:w1.cell? ⟨s+1+1,4,none⟩=some (.int .i64 (p:Int)):=hk4.cell 4
 have y0:=hk4.frozen 0
 have y1:=hk4.frozen 1
 have y2:=hk4.frozen 2
 have y3:=hk4.frozen 3
 have y4:=hk4.frozen 4
 have hl4:=hk4.lt
 go_wp2_with fail
 obtain ⟨f,hf⟩:∃ f,w1.heap.size=f:=⟨_,rfl⟩
 obtain ⟨xb,hxb⟩:∃ xb,s+1+1=xb:=⟨_,rfl⟩
 obtain ⟨W3,hW3⟩:∃ W3,(((w1.setCell ⟨s+1+1,0,none⟩ (.int .i64 num)).setCell ⟨s+1+1,1,none⟩ (.int .u8 2)).alloc (.cells #[.int .i64 0,.int .i64 0] 32)).alloc (.cells #[.int .i64 0,.int .i64 0] 32)=W3:=⟨_,rfl⟩
 have hC3:Chg (fun k=>k=xb) w1 W3:=by rw [<-hW3,<-hxb];exact ((((Chg.refl (fun k=>k=s+1+1) w1).set_ (.inl rfl) 0 (.int .i64 num)).set_ (.inl rfl) 1 (.int .u8 2)).alloc _).alloc _
 have hX:Blk W3 xb 61 #[.int .i64 num,.int .u8 2,.int .u64 0,.slice none 0 0,.int .i64 (p:Int)]:=by
  rw [<-hW3,<-hxb]
  have:=(((hk4.set_ 0 (.int .i64 num)).set_ 1 (.int .u8 2)).alloc (.cells #[.int .i64 0,.int .i64 0] 32)).alloc (.cells #[.int .i64 0,.int .i64 0] 32)
  simpa using this
 have hG:Blk W3 (f+1) 32 #[.int .i64 0,.int .i64 0]:=by
  rw [<-hW3,<-hf]
  have:=Blk.new (((w1.setCell ⟨s+1+1,0,none⟩ (.int .i64 num)).setCell ⟨s+1+1,1,none⟩ (.int .u8 2)).alloc (.cells #[.int .i64 0,.int .i64 0] 32)) 32 #[.int .i64 0,.int .i64 0]
  simpa [World.setCell] using this
 rw [hW3,hf,hxb]
 have k2:=hC3.blk hk2 (by omega)
 have k3:=hC3.blk hk3 (by omega)
 have hr3:=hrin.chgS hC3 (by omega) (fun hp b o he hS=>HFN.out b (by omega) hp b o he rfl)
 have hO3:=hO.chgS hC3 (fun k hk=>by omega)
 refine (HVL.out _ hr3).mono ?_
 rintro e5 w5 ⟨A9,c9,rfl,hs9,hf9,hr5,ho5⟩
 have m2:=ho5.blk k2 (by omega)
 have m3:=ho5.blk k3 (by omega)
 have mX:=ho5.blk hX (by omega)
 have mG:=ho5.blk hG (by omega)
 have hO5:=hO3.trans ho5
 have hs3:=ho5.size
 have hGl:=hG.lt
 have hfar:∀ g,g < w.heap.size->Far A9 xl g:=fun g hg=>hf9 g (by have:=hO3.size;omega)
 clear hW3 hk2 hk3 hk4 hX hG k2 k3 hr3 hO3 ho5 hrin hC3 hO HVL x0 x1 x2 x3 x4 y0 y1 y2 y3 y4
 have u0:w5.cell? ⟨xb,0,none⟩=some (.int .i64 num):=mX.cell 0
 have u1:w5.cell? ⟨xb,1,none⟩=some (.int .u8 2):=mX.cell 1
 have u2:w5.cell? ⟨xb,2,none⟩=some (.int .u64 0):=mX.cell 2
 have u3:w5.cell? ⟨xb,3,none⟩=some (.slice none 0 0):=mX.cell 3
 have u4:w5.cell? ⟨xb,4,none⟩=some (.int .i64 (p:Int)):=mX.cell 4
 have z0:=mX.frozen 0
 have z1:=mX.frozen 1
 have z2:=mX.frozen 2
 have z3:=mX.frozen 3
 have z4:=mX.frozen 4
 have d0:w5.cell? ⟨f+1,0,none⟩=some (.int .i64 0):=mG.cell 0
 have d1:w5.cell? ⟨f+1,1,none⟩=some (.int .i64 0):=mG.cell 1
 have r0:=mG.frozen 0
 have r1:=mG.frozen 1
 have a0:w5.cell? ⟨s,0,none⟩=some (.int .i64 0):=m2.cell 0
 have a1:w5.cell? ⟨s,1,none⟩=some (.int .u8 0):=m2.cell 1
 have a2:w5.cell? ⟨s,2,none⟩=some (.int .u64 0):=m2.cell 2
 have a3:w5.cell? ⟨s,3,none⟩=some (.slice none 0 0):=m2.cell 3
 have a4:w5.cell? ⟨s,4,none⟩=some (.int .i64 0):=m2.cell 4
 have g0:=m2.frozen 0
 have g1:=m2.frozen 1
 have g2:=m2.frozen 2
 have g3:=m2.frozen 3
 have g4:=m2.frozen 4
 have b0:w5.cell? ⟨s+1,0,none⟩=some (.int .i64 0):=m3.cell 0
 have b1:w5.cell? ⟨s+1,1,none⟩=some (.int .i64 0):=m3.cell 1
 have i0:=m3.frozen 0
 have i1:=m3.frozen 1
 have hnx:xb ≠ s:=by omega
 have hnx1:xb ≠ s+1:=by omega
 have hng:f+1 ≠ s:=by omega
 have hng1:f+1 ≠ s+1:=by omega
 have hngx:f+1 ≠ xb:=by omega
 have hnxg:xb ≠ f+1:=by omega
 have hl2:=m2.lt
 have hl3:=m3.lt
 have hlX:=mX.lt
 have hlG:=mG.lt
 have HR5:=hid hr5
 have HO5:=hid hO5
 have M2:=hid m2
 have M3:=hid m3
 have MX:=hid mX
 have MG:=hid mG
 have HS9:=hid hs9
 have HF9:=hid hf9
 have HFAR:=hid hfar
 clear hr5 hO5 m2 m3 mX mG hs9 hf9 hfar
 go_wp2_with fail
 obtain ⟨W5,hW5⟩:∃ W5,((w5.setCell ⟨xb,3,none⟩ (.slice A9 xl c9)).setCell ⟨f+1,0,none⟩ (.int .i64 (er:Int))).setCell ⟨f+1,1,none⟩ (.int .i64 (fa:Int))=W5:=⟨_,rfl⟩
 have hc5:Chg (fun k=>k=xb\/k=f+1) w5 W5:=by rw [<-hW5];exact (((Chg.refl (fun k=>k=xb\/k=f+1) w5).set_ (.inl (.inl rfl)) 3 (.slice A9 xl c9)).set_ (.inl (.inr rfl)) 0 (.int .i64 (er:Int))).set_ (.inl (.inr rfl)) 1 (.int .i64 (fa:Int))
 have nG:Blk W5 (f+1) 32 #[.int .i64 (er:Int),.int .i64 (fa:Int)]:=by
  rw [<-hW5]
  have:=((MG.out.far (p:=⟨xb,3,none⟩) hngx (.slice A9 xl c9)).set_ 0 (.int .i64 (er:Int))).set_ 1 (.int .i64 (fa:Int))
  simpa using this
 rw [hW5]
 have n2:=hc5.blk M2.out (by omega)
 have n3:=hc5.blk M3.out (by omega)
 clear a0 a1 a2 a3 a4 b0 b1 g0 g1 g2 g3 g4 i0 i1 u0 u1 u2 u3 u4 z0 z1 z2 z3 z4 d0 d1 r0 r1
 have a0:W5.cell? ⟨s,0,none⟩=some (.int .i64 0):=n2.cell 0
 have a1:W5.cell? ⟨s,1,none⟩=some (.int .u8 0):=n2.cell 1
 have a2:W5.cell? ⟨s,2,none⟩=some (.int .u64 0):=n2.cell 2
 have a3:W5.cell? ⟨s,3,none⟩=some (.slice none 0 0):=n2.cell 3
 have a4:W5.cell? ⟨s,4,none⟩=some (.int .i64 0):=n2.cell 4
 have g0:=n2.frozen 0
 have g1:=n2.frozen 1
 have g2:=n2.frozen 2
 have g3:=n2.frozen 3
 have g4:=n2.frozen 4
 have b0:W5.cell? ⟨s+1,0,none⟩=some (.int .i64 0):=n3.cell 0
 have b1:W5.cell? ⟨s+1,1,none⟩=some (.int .i64 0):=n3.cell 1
 have i0:=n3.frozen 0
 have i1:=n3.frozen 1
 have e0:W5.cell? ⟨f+1,0,none⟩=some (.int .i64 (er:Int)):=nG.cell 0
 have e1:W5.cell? ⟨f+1,1,none⟩=some (.int .i64 (fa:Int)):=nG.cell 1
 have hla:=n2.lt
 have hlb:=n3.lt
 have hlc:=nG.lt
 have HC5:=hid hc5
 clear n2 n3 nG hc5 hW5
 go_region
 all_goals go_wp2_with fail
 all_goals refine bodyPost_ret (v:=.tuple #[.agg #[.int .i64 0,.int .u8 0,.int .u64 0,.slice none 0 0,.int .i64 0],.agg #[.int .i64 (er:Int),.int .i64 (fa:Int)]]) (by simp [results,Tryz.results34,go_sem,a0,a1,a2,a3,a4,b0,b1]) rfl ⟨rfl,?_,?_⟩
 ·exact (HR5.out.chgS HC5.out (by omega) (fun hp b o he hS=>hS.elim (fun h=>HFN.out b (by omega) hp b o he rfl) (fun h=>HFN.out b (by omega) hp b o he rfl))).chgS (chg52 W5 s (s+1) _ _ _ _ _ _ _) (by omega) (fun hp b o he hS=>hS.elim (fun h=>HFN.out b (by omega) hp b o he rfl) (fun h=>HFN.out b (by omega) hp b o he rfl))
 ·exact (HO5.out.chgS HC5.out (fun k hk=>by omega)).chgS (chg52 W5 s (s+1) _ _ _ _ _ _ _) (fun k hk=>by omega)
theorem rone_5 (num:Int) (p1:Nat) (v er fa nx:Nat) (w:World) (q:Nat) (A:Option Addr) (c:Nat) (bs:List UInt8) (p:Nat) (hh:rHead bs p=(num,5,0,p1)) (hv:rVal 5 bs p1=(v,[],er,nx)) (hfa:flt er p1=fa) (he:er=0) (h:Rin 80 w q A c bs p) :
  Calls Tryz.prog 34 #[.pointer (some ⟨q,0,none⟩)] w fun e' w'=>e'=.returned (.tuple #[.agg #[.int .i64 num,.int .u8 5,.int .u64 (v:Int),.slice none 0 0,.int .i64 (p:Int)],.agg #[.int .i64 0,.int .i64 0]])/\Rin 80 w' q A c bs nx/\Only q w w':=by
 have hlt:=h.blk.lt
 have htg:=fun W hb=>rtag_any W q A c bs p (h.below hb)
 have hfn:=fun g (hg:w.heap.size<=g)=>far_new h.sl hg
 have c1:w.cell? ⟨q,1,none⟩=some (.int .i64 (p:Int)):=by simpa using h.blk.cell 1
 have hvl:=fun W hr=>rval5 W q A c bs p1 hr
 simp only [hh,if_true,flt,plc] at htg
 simp only [hv,hfa] at hvl
 subst he
 obtain rfl:fa=0:=by rw [<-hfa];rfl
 have HTG:=hid htg
 have HVL:=hid hvl
 have HFN:=hid hfn
 clear htg hvl hfn h hh hv hfa
 go_enter Tryz.func34,Tryz.ntmps34
 go_wp2_with fail
 generalize hW:World.alloc _ _=W
 have hbW:Below w.heap.size w W:=by rw [<-hW];exact bw_a (bw_a (bw_a (Below.refl _ w) _) _) _
 have hoW:Only q w W:=.of_below hbW
 have hq2:Blk W w.heap.size 61 #[.int .i64 0,.int .u8 0,.int .u64 0,.slice none 0 0,.int .i64 0]:=by rw [<-hW];exact ((Blk.new w _ _).alloc _).alloc _
 have hq3:Blk W (w.heap.size+1) 32 #[.int .i64 0,.int .i64 0]:=by
  rw [<-hW]
  have:=(Blk.new (w.alloc (.cells #[.int .i64 0,.int .u8 0,.int .u64 0,.slice none 0 0,.int .i64 0] 61)) 32 #[.int .i64 0,.int .i64 0]).alloc (.cells #[.int .i64 0,.int .u8 0,.int .u64 0,.slice none 0 0,.int .i64 (p:Int)] 61)
  simpa using this
 have hq4:Blk W (w.heap.size+1+1) 61 #[.int .i64 0,.int .u8 0,.int .u64 0,.slice none 0 0,.int .i64 (p:Int)]:=by
  rw [<-hW]
  have:=Blk.new ((w.alloc (.cells #[.int .i64 0,.int .u8 0,.int .u64 0,.slice none 0 0,.int .i64 0] 61)).alloc (.cells #[.int .i64 0,.int .i64 0] 32)) 61 #[.int .i64 0,.int .u8 0,.int .u64 0,.slice none 0 0,.int .i64 (p:Int)]
  simpa using this
 clear hW
 refine (HTG.out _ hbW).mono ?_
 rintro e1 w1 ⟨rfl,hrin,ho⟩
 have hk2:=ho.blk hq2 (by omega)
 have hk3:=ho.blk hq3 (by omega)
 have hk4:=ho.blk hq4 (by omega)
 have hO:=hoW.trans ho
 clear hq2 hq3 hq4 hoW ho
 generalize hs:w.heap.size=s at *
 clear HTG c1
 have x0:w1.cell? ⟨s+1+1,0,none⟩=some (.int .i64 0):=hk4.cell 0
 have x1:w1.cell? ⟨s+1+1,1,none⟩=some (.int .u8 0):=hk4.cell 1
 have x2:w1.cell? ⟨s+1+1,2,none⟩=some (.int .u64 0):=hk4.cell 2
 have x3:w1.cell? ⟨s+1+1,3,none⟩=some (.slice none 0 0):=hk4.cell 3
 have x4:w1.cell? ⟨s+1+1,4,none⟩=some (.int .i64 (p:Int)):=hk4.cell 4
 have y0:=hk4.frozen 0
 have y1:=hk4.frozen 1
 have y2:=hk4.frozen 2
 have y3:=hk4.frozen 3
 have y4:=hk4.frozen 4
 have hl4:=hk4.lt
 go_wp2_with fail
 obtain ⟨f,hf⟩:∃ f,w1.heap.size=f:=⟨_,rfl⟩
 obtain ⟨xb,hxb⟩:∃ xb,s+1+1=xb:=⟨_,rfl⟩
 obtain ⟨W3,hW3⟩:∃ W3,(((w1.setCell ⟨s+1+1,0,none⟩ (.int .i64 num)).setCell ⟨s+1+1,1,none⟩ (.int .u8 5)).alloc (.cells #[.int .i64 0,.int .i64 0] 32)).alloc (.cells #[.int .i64 0,.int .i64 0] 32)=W3:=⟨_,rfl⟩
 have hC3:Chg (fun k=>k=xb) w1 W3:=by rw [<-hW3,<-hxb];exact ((((Chg.refl (fun k=>k=s+1+1) w1).set_ (.inl rfl) 0 (.int .i64 num)).set_ (.inl rfl) 1 (.int .u8 5)).alloc _).alloc _
 have hX:Blk W3 xb 61 #[.int .i64 num,.int .u8 5,.int .u64 0,.slice none 0 0,.int .i64 (p:Int)]:=by
  rw [<-hW3,<-hxb]
  have:=(((hk4.set_ 0 (.int .i64 num)).set_ 1 (.int .u8 5)).alloc (.cells #[.int .i64 0,.int .i64 0] 32)).alloc (.cells #[.int .i64 0,.int .i64 0] 32)
  simpa using this
 have hG:Blk W3 (f+1) 32 #[.int .i64 0,.int .i64 0]:=by
  rw [<-hW3,<-hf]
  have:=Blk.new (((w1.setCell ⟨s+1+1,0,none⟩ (.int .i64 num)).setCell ⟨s+1+1,1,none⟩ (.int .u8 5)).alloc (.cells #[.int .i64 0,.int .i64 0] 32)) 32 #[.int .i64 0,.int .i64 0]
  simpa [World.setCell] using this
 rw [hW3,hf,hxb]
 have k2:=hC3.blk hk2 (by omega)
 have k3:=hC3.blk hk3 (by omega)
 have hr3:=hrin.chgS hC3 (by omega) (fun hp b o he hS=>HFN.out b (by omega) hp b o he rfl)
 have hO3:=hO.chgS hC3 (fun k hk=>by omega)
 refine (HVL.out _ hr3).mono ?_
 rintro e5 w5 ⟨rfl,hr5,ho5⟩
 have m2:=ho5.blk k2 (by omega)
 have m3:=ho5.blk k3 (by omega)
 have mX:=ho5.blk hX (by omega)
 have mG:=ho5.blk hG (by omega)
 have hO5:=hO3.trans ho5
 have hs3:=ho5.size
 have hGl:=hG.lt
 clear hW3 hk2 hk3 hk4 hX hG k2 k3 hr3 hO3 ho5 hrin hC3 hO HVL x0 x1 x2 x3 x4 y0 y1 y2 y3 y4
 have u0:w5.cell? ⟨xb,0,none⟩=some (.int .i64 num):=mX.cell 0
 have u1:w5.cell? ⟨xb,1,none⟩=some (.int .u8 5):=mX.cell 1
 have u2:w5.cell? ⟨xb,2,none⟩=some (.int .u64 0):=mX.cell 2
 have u3:w5.cell? ⟨xb,3,none⟩=some (.slice none 0 0):=mX.cell 3
 have u4:w5.cell? ⟨xb,4,none⟩=some (.int .i64 (p:Int)):=mX.cell 4
 have z0:=mX.frozen 0
 have z1:=mX.frozen 1
 have z2:=mX.frozen 2
 have z3:=mX.frozen 3
 have z4:=mX.frozen 4
 have d0:w5.cell? ⟨f+1,0,none⟩=some (.int .i64 0):=mG.cell 0
 have d1:w5.cell? ⟨f+1,1,none⟩=some (.int .i64 0):=mG.cell 1
 have r0:=mG.frozen 0
 have r1:=mG.frozen 1
 have a0:w5.cell? ⟨s,0,none⟩=some (.int .i64 0):=m2.cell 0
 have a1:w5.cell? ⟨s,1,none⟩=some (.int .u8 0):=m2.cell 1
 have a2:w5.cell? ⟨s,2,none⟩=some (.int .u64 0):=m2.cell 2
 have a3:w5.cell? ⟨s,3,none⟩=some (.slice none 0 0):=m2.cell 3
 have a4:w5.cell? ⟨s,4,none⟩=some (.int .i64 0):=m2.cell 4
 have g0:=m2.frozen 0
 have g1:=m2.frozen 1
 have g2:=m2.frozen 2
 have g3:=m2.frozen 3
 have g4:=m2.frozen 4
 have b0:w5.cell? ⟨s+1,0,none⟩=some (.int .i64 0):=m3.cell 0
 have b1:w5.cell? ⟨s+1,1,none⟩=some (.int .i64 0):=m3.cell 1
 have i0:=m3.frozen 0
 have i1:=m3.frozen 1
 have hnx:xb ≠ s:=by omega
 have hnx1:xb ≠ s+1:=by omega
 have hng:f+1 ≠ s:=by omega
 have hng1:f+1 ≠ s+1:=by omega
 have hngx:f+1 ≠ xb:=by omega
 have hnxg:xb ≠ f+1:=by omega
 have hl2:=m2.lt
 have hl3:=m3.lt
 have hlX:=mX.lt
 have hlG:=mG.lt
 have HR5:=hid hr5
 have HO5:=hid hO5
 have M2:=hid m2
 have M3:=hid m3
 have MX:=hid mX
 have MG:=hid mG
 clear hr5 hO5 m2 m3 mX mG
 go_wp2_with fail
 obtain ⟨W5,hW5⟩:∃ W5,((w5.setCell ⟨xb,2,none⟩ (.int .u64 (v:Int))).setCell ⟨f+1,0,none⟩ (.int .i64 0)).setCell ⟨f+1,1,none⟩ (.int .i64 0)=W5:=⟨_,rfl⟩
 have hc5:Chg (fun k=>k=xb\/k=f+1) w5 W5:=by rw [<-hW5];exact (((Chg.refl (fun k=>k=xb\/k=f+1) w5).set_ (.inl (.inl rfl)) 2 (.int .u64 (v:Int))).set_ (.inl (.inr rfl)) 0 (.int .i64 0)).set_ (.inl (.inr rfl)) 1 (.int .i64 0)
 rw [hW5]
 have n2:=hc5.blk M2.out (by omega)
 have n3:=hc5.blk M3.out (by omega)
 obtain ⟨hA,hB,hC⟩:=fin52 n2 n3 (.int .i64 num) (.int .u8 5) (.int .u64 (v:Int)) (.slice none 0 0) (.int .i64 (p:Int)) (.int .i64 0) (.int .i64 0)
 clear a0 a1 a2 a3 a4 b0 b1 g0 g1 g2 g3 g4 i0 i1 u0 u1 u2 u3 u4 z0 z1 z2 z3 z4 d0 d1 r0 r1
 generalize World.setCell (World.setCell (World.setCell (World.setCell (World.setCell (World.setCell (World.setCell W5 _ _) _ _) _ _) _ _) _ _) _ _) _ _=WE at *
 have a0:WE.cell? ⟨s,0,none⟩=some (.int .i64 num):=hA.cell 0
 have a1:WE.cell? ⟨s,1,none⟩=some (.int .u8 5):=hA.cell 1
 have a2:WE.cell? ⟨s,2,none⟩=some (.int .u64 (v:Int)):=hA.cell 2
 have a3:WE.cell? ⟨s,3,none⟩=some (.slice none 0 0):=hA.cell 3
 have a4:WE.cell? ⟨s,4,none⟩=some (.int .i64 (p:Int)):=hA.cell 4
 have b0:WE.cell? ⟨s+1,0,none⟩=some (.int .i64 0):=hB.cell 0
 have b1:WE.cell? ⟨s+1,1,none⟩=some (.int .i64 0):=hB.cell 1
 exact bodyPost_ret (v:=.tuple #[.agg #[.int .i64 num,.int .u8 5,.int .u64 (v:Int),.slice none 0 0,.int .i64 (p:Int)],.agg #[.int .i64 0,.int .i64 0]]) (by simp [results,Tryz.results34,go_sem,a0,a1,a2,a3,a4,b0,b1]) rfl ⟨rfl,(HR5.out.chgS hc5 (by omega) (fun hp b o he hS=>hS.elim (fun h=>HFN.out b (by omega) hp b o he rfl) (fun h=>HFN.out b (by omega) hp b o he rfl))).chgS hC (by omega) (fun hp b o he hS=>hS.elim (fun h=>HFN.out b (by omega) hp b o he rfl) (fun h=>HFN.out b (by omega) hp b o he rfl)),(HO5.out.chgS hc5 (fun k hk=>by omega)).chgS hC (fun k hk=>by omega)⟩
theorem rone_5x (num:Int) (p1:Nat) (v er fa nx:Nat) (w:World) (q:Nat) (A:Option Addr) (c:Nat) (bs:List UInt8) (p:Nat) (hh:rHead bs p=(num,5,0,p1)) (hv:rVal 5 bs p1=(v,[],er,nx)) (hfa:flt er p1=fa) (he:er ≠ 0) (h:Rin 80 w q A c bs p) :
  Calls Tryz.prog 34 #[.pointer (some ⟨q,0,none⟩)] w fun e' w'=>e'=.returned (.tuple #[.agg #[.int .i64 0,.int .u8 0,.int .u64 0,.slice none 0 0,.int .i64 0],.agg #[.int .i64 (er:Int),.int .i64 (fa:Int)]])/\Rin 80 w' q A c bs nx/\Only q w w':=by
 have hlt:=h.blk.lt
 have htg:=fun W hb=>rtag_any W q A c bs p (h.below hb)
 have hfn:=fun g (hg:w.heap.size<=g)=>far_new h.sl hg
 have c1:w.cell? ⟨q,1,none⟩=some (.int .i64 (p:Int)):=by simpa using h.blk.cell 1
 have hvl:=fun W hr=>rval5 W q A c bs p1 hr
 simp only [hh,if_true,flt,plc] at htg
 simp only [hv,hfa] at hvl
 have heb:((er:Int) != 0)=true:=by simp;omega
 have HTG:=hid htg
 have HVL:=hid hvl
 have HFN:=hid hfn
 clear htg hvl hfn h hh hv hfa he
 go_enter Tryz.func34,Tryz.ntmps34
 go_wp2_with fail
 generalize hW:World.alloc _ _=W
 have hbW:Below w.heap.size w W:=by rw [<-hW];exact bw_a (bw_a (bw_a (Below.refl _ w) _) _) _
 have hoW:Only q w W:=.of_below hbW
 have hq2:Blk W w.heap.size 61 #[.int .i64 0,.int .u8 0,.int .u64 0,.slice none 0 0,.int .i64 0]:=by rw [<-hW];exact ((Blk.new w _ _).alloc _).alloc _
 have hq3:Blk W (w.heap.size+1) 32 #[.int .i64 0,.int .i64 0]:=by
  rw [<-hW]
  have:=(Blk.new (w.alloc (.cells #[.int .i64 0,.int .u8 0,.int .u64 0,.slice none 0 0,.int .i64 0] 61)) 32 #[.int .i64 0,.int .i64 0]).alloc (.cells #[.int .i64 0,.int .u8 0,.int .u64 0,.slice none 0 0,.int .i64 (p:Int)] 61)
  simpa using this
 have hq4:Blk W (w.heap.size+1+1) 61 #[.int .i64 0,.int .u8 0,.int .u64 0,.slice none 0 0,.int .i64 (p:Int)]:=by
  rw [<-hW]
  have:=Blk.new ((w.alloc (.cells #[.int .i64 0,.int .u8 0,.int .u64 0,.slice none 0 0,.int .i64 0] 61)).alloc (.cells #[.int .i64 0,.int .i64 0] 32)) 61 #[.int .i64 0,.int .u8 0,.int .u64 0,.slice none 0 0,.int .i64 (p:Int)]
  simpa using this
 clear hW
 refine (HTG.out _ hbW).mono ?_
 rintro e1 w1 ⟨rfl,hrin,ho⟩
 have hk2:=ho.blk hq2 (by omega)
 have hk3:=ho.blk hq3 (by omega)
 have hk4:=ho.blk hq4 (by omega)
 have hO:=hoW.trans ho
 clear hq2 hq3 hq4 hoW ho
 generalize hs:w.heap.size=s at *
 clear HTG c1
 have x0:w1.cell? ⟨s+1+1,0,none⟩=some (.int .i64 0):=hk4.cell 0
 have x1:w1.cell? ⟨s+1+1,1,none⟩=some (.int .u8 0):=hk4.cell 1
 have x2:w1.cell? ⟨s+1+1,2,none⟩=some (.int .u64 0):=hk4.cell 2
 have x3:w1.cell? ⟨s+1+1,3,none⟩=some (.slice none 0 0):=hk4.cell 3
 have x4:w1.cell? ⟨s+1+1,4,none⟩=some (.int .i64 (p:Int)):=hk4.cell 4
 have y0:=hk4.frozen 0
 have y1:=hk4.frozen 1
 have y2:=hk4.frozen 2
 have y3:=hk4.frozen 3
 have y4:=hk4.frozen 4
 have hl4:=hk4.lt
 go_wp2_with fail
 obtain ⟨f,hf⟩:∃ f,w1.heap.size=f:=⟨_,rfl⟩
 obtain ⟨xb,hxb⟩:∃ xb,s+1+1=xb:=⟨_,rfl⟩
 obtain ⟨W3,hW3⟩:∃ W3,(((w1.setCell ⟨s+1+1,0,none⟩ (.int .i64 num)).setCell ⟨s+1+1,1,none⟩ (.int .u8 5)).alloc (.cells #[.int .i64 0,.int .i64 0] 32)).alloc (.cells #[.int .i64 0,.int .i64 0] 32)=W3:=⟨_,rfl⟩
 have hC3:Chg (fun k=>k=xb) w1 W3:=by rw [<-hW3,<-hxb];exact ((((Chg.refl (fun k=>k=s+1+1) w1).set_ (.inl rfl) 0 (.int .i64 num)).set_ (.inl rfl) 1 (.int .u8 5)).alloc _).alloc _
 have hX:Blk W3 xb 61 #[.int .i64 num,.int .u8 5,.int .u64 0,.slice none 0 0,.int .i64 (p:Int)]:=by
  rw [<-hW3,<-hxb]
  have:=(((hk4.set_ 0 (.int .i64 num)).set_ 1 (.int .u8 5)).alloc (.cells #[.int .i64 0,.int .i64 0] 32)).alloc (.cells #[.int .i64 0,.int .i64 0] 32)
  simpa using this
 have hG:Blk W3 (f+1) 32 #[.int .i64 0,.int .i64 0]:=by
  rw [<-hW3,<-hf]
  have:=Blk.new (((w1.setCell ⟨s+1+1,0,none⟩ (.int .i64 num)).setCell ⟨s+1+1,1,none⟩ (.int .u8 5)).alloc (.cells #[.int .i64 0,.int .i64 0] 32)) 32 #[.int .i64 0,.int .i64 0]
  simpa [World.setCell] using this
 rw [hW3,hf,hxb]
 have k2:=hC3.blk hk2 (by omega)
 have k3:=hC3.blk hk3 (by omega)
 have hr3:=hrin.chgS hC3 (by omega) (fun hp b o he hS=>HFN.out b (by omega) hp b o he rfl)
 have hO3:=hO.chgS hC3 (fun k hk=>by omega)
 refine (HVL.out _ hr3).mono ?_
 rintro e5 w5 ⟨rfl,hr5,ho5⟩
 have m2:=ho5.blk k2 (by omega)
 have m3:=ho5.blk k3 (by omega)
 have mX:=ho5.blk hX (by omega)
 have mG:=ho5.blk hG (by omega)
 have hO5:=hO3.trans ho5
 have hs3:=ho5.size
 have hGl:=hG.lt
 clear hW3 hk2 hk3 hk4 hX hG k2 k3 hr3 hO3 ho5 hrin hC3 hO HVL x0 x1 x2 x3 x4 y0 y1 y2 y3 y4
 have u0:w5.cell? ⟨xb,0,none⟩=some (.int .i64 num):=mX.cell 0
 have u1:w5.cell? ⟨xb,1,none⟩=some (.int .u8 5):=mX.cell 1
 have u2:w5.cell? ⟨xb,2,none⟩=some (.int .u64 0):=mX.cell 2
 have u3:w5.cell? ⟨xb,3,none⟩=some (.slice none 0 0):=mX.cell 3
 have u4:w5.cell? ⟨xb,4,none⟩=some (.int .i64 (p:Int)):=mX.cell 4
 have z0:=mX.frozen 0
 have z1:=mX.frozen 1
 have z2:=mX.frozen 2
 have z3:=mX.frozen 3
 have z4:=mX.frozen 4
 have d0:w5.cell? ⟨f+1,0,none⟩=some (.int .i64 0):=mG.cell 0
 have d1:w5.cell? ⟨f+1,1,none⟩=some (.int .i64 0):=mG.cell 1
 have r0:=mG.frozen 0
 have r1:=mG.frozen 1
 have a0:w5.cell? ⟨s,0,none⟩=some (.int .i64 0):=m2.cell 0
 have a1:w5.cell? ⟨s,1,none⟩=some (.int .u8 0):=m2.cell 1
 have a2:w5.cell? ⟨s,2,none⟩=some (.int .u64 0):=m2.cell 2
 have a3:w5.cell? ⟨s,3,none⟩=some (.slice none 0 0):=m2.cell 3
 have a4:w5.cell? ⟨s,4,none⟩=some (.int .i64 0):=m2.cell 4
 have g0:=m2.frozen 0
 have g1:=m2.frozen 1
 have g2:=m2.frozen 2
 have g3:=m2.frozen 3
 have g4:=m2.frozen 4
 have b0:w5.cell? ⟨s+1,0,none⟩=some (.int .i64 0):=m3.cell 0
 have b1:w5.cell? ⟨s+1,1,none⟩=some (.int .i64 0):=m3.cell 1
 have i0:=m3.frozen 0
 have i1:=m3.frozen 1
 have hnx:xb ≠ s:=by omega
 have hnx1:xb ≠ s+1:=by omega
 have hng:f+1 ≠ s:=by omega
 have hng1:f+1 ≠ s+1:=by omega
 have hngx:f+1 ≠ xb:=by omega
 have hnxg:xb ≠ f+1:=by omega
 have hl2:=m2.lt
 have hl3:=m3.lt
 have hlX:=mX.lt
 have hlG:=mG.lt
 have HR5:=hid hr5
 have HO5:=hid hO5
 have M2:=hid m2
 have M3:=hid m3
 have MX:=hid mX
 have MG:=hid mG
 clear hr5 hO5 m2 m3 mX mG
 go_wp2_with fail
 obtain ⟨W5,hW5⟩:∃ W5,((w5.setCell ⟨xb,2,none⟩ (.int .u64 (v:Int))).setCell ⟨f+1,0,none⟩ (.int .i64 (er:Int))).setCell ⟨f+1,1,none⟩ (.int .i64 (fa:Int))=W5:=⟨_,rfl⟩
 have hc5:Chg (fun k=>k=xb\/k=f+1) w5 W5:=by rw [<-hW5];exact (((Chg.refl (fun k=>k=xb\/k=f+1) w5).set_ (.inl (.inl rfl)) 2 (.int .u64 (v:Int))).set_ (.inl (.inr rfl)) 0 (.int .i64 (er:Int))).set_ (.inl (.inr rfl)) 1 (.int .i64 (fa:Int))
 have nG:Blk W5 (f+1) 32 #[.int .i64 (er:Int),.int .i64 (fa:Int)]:=by
  rw [<-hW5]
  have:=((MG.out.far (p:=⟨xb,2,none⟩) hngx (.int .u64 (v:Int))).set_ 0 (.int .i64 (er:Int))).set_ 1 (.int .i64 (fa:Int))
  simpa using this
 rw [hW5]
 have n2:=hc5.blk M2.out (by omega)
 have n3:=hc5.blk M3.out (by omega)
 clear a0 a1 a2 a3 a4 b0 b1 g0 g1 g2 g3 g4 i0 i1 u0 u1 u2 u3 u4 z0 z1 z2 z3 z4 d0 d1 r0 r1
 have a0:W5.cell? ⟨s,0,none⟩=some (.int .i64 0):=n2.cell 0
 have a1:W5.cell? ⟨s,1,none⟩=some (.int .u8 0):=n2.cell 1
 have a2:W5.cell? ⟨s,2,none⟩=some (.int .u64 0):=n2.cell 2
 have a3:W5.cell? ⟨s,3,none⟩=some (.slice none 0 0):=n2.cell 3
 have a4:W5.cell? ⟨s,4,none⟩=some (.int .i64 0):=n2.cell 4
 have g0:=n2.frozen 0
 have g1:=n2.frozen 1
 have g2:=n2.frozen 2
 have g3:=n2.frozen 3
 have g4:=n2.frozen 4
 have b0:W5.cell? ⟨s+1,0,none⟩=some (.int .i64 0):=n3.cell 0
 have b1:W5.cell? ⟨s+1,1,none⟩=some (.int .i64 0):=n3.cell 1
 have i0:=n3.frozen 0
 have i1:=n3.frozen 1
 have e0:W5.cell? ⟨f+1,0,none⟩=some (.int .i64 (er:Int)):=nG.cell 0
 have e1:W5.cell? ⟨f+1,1,none⟩=some (.int .i64 (fa:Int)):=nG.cell 1
 have hla:=n2.lt
 have hlb:=n3.lt
 have hlc:=nG.lt
 have HC5:=hid hc5
 clear n2 n3 nG hc5 hW5
 go_region
 all_goals go_wp2_with fail
 all_goals refine bodyPost_ret (v:=.tuple #[.agg #[.int .i64 0,.int .u8 0,.int .u64 0,.slice none 0 0,.int .i64 0],.agg #[.int .i64 (er:Int),.int .i64 (fa:Int)]]) (by simp [results,Tryz.results34,go_sem,a0,a1,a2,a3,a4,b0,b1]) rfl ⟨rfl,?_,?_⟩
 ·exact (HR5.out.chgS HC5.out (by omega) (fun hp b o he hS=>hS.elim (fun h=>HFN.out b (by omega) hp b o he rfl) (fun h=>HFN.out b (by omega) hp b o he rfl))).chgS (chg52 W5 s (s+1) _ _ _ _ _ _ _) (by omega) (fun hp b o he hS=>hS.elim (fun h=>HFN.out b (by omega) hp b o he rfl) (fun h=>HFN.out b (by omega) hp b o he rfl))
 ·exact (HO5.out.chgS HC5.out (fun k hk=>by omega)).chgS (chg52 W5 s (s+1) _ _ _ _ _ _ _) (fun k hk=>by omega)
theorem rone_any (w:World) (q:Nat) (A:Option Addr) (c:Nat) (bs:List UInt8) (p:Nat) (hbl:bs.length<=100000) (h:Rin 80 w q A c bs p) :
  Calls Tryz.prog 34 #[.pointer (some ⟨q,0,none⟩)] w fun e w'=>(((rOne bs p).e=0/\∃ A' c',e=.returned (.tuple #[.agg #[.int .i64 (rOne bs p).num,.int .u8 (rOne bs p).w,.int .u64 ((rOne bs p).n:Nat),.slice A' (rOne bs p).xs.length c',.int .i64 (p:Int)],.agg #[.int .i64 0,.int .i64 0]])/\Sl w' A' c' ((rOne bs p).xs.map bv)/\(∀ g,g < w.heap.size->Far A' (rOne bs p).xs.length g)) \/
   ((rOne bs p).e ≠ 0/\e=.returned (.tuple #[.agg #[.int .i64 0,.int .u8 0,.int .u64 0,.slice none 0 0,.int .i64 0],.agg #[.int .i64 ((rOne bs p).e:Nat),.int .i64 ((rOne bs p).p:Nat)]])))/\Rin 80 w' q A c bs (rOne bs p).nx/\Only q w w':=by
 by_cases he:(rHead bs p).2.2.1=0
 ·have hf:=rHead_facts bs p he
  have hr:rOne bs p=⟨(rHead bs p).1,(rHead bs p).2.1,(rVal (rHead bs p).2.1 bs (rHead bs p).2.2.2).1,(rVal (rHead bs p).2.1 bs (rHead bs p).2.2.2).2.1,(rVal (rHead bs p).2.1 bs (rHead bs p).2.2.2).2.2.1,flt (rVal (rHead bs p).2.1 bs (rHead bs p).2.2.2).2.2.1 (rHead bs p).2.2.2,(rVal (rHead bs p).2.1 bs (rHead bs p).2.2.2).2.2.2⟩:=by unfold rOne;rw [if_pos he]
  rw [hr]
  obtain ⟨hd,hhd⟩:∃ hd,rHead bs p=hd:=⟨_,rfl⟩
  rw [hhd] at he hf ⊢
  obtain ⟨num,x,e,p1⟩:=hd
  simp only at he hf ⊢
  subst he
  rcases hf.2.2.1 with rfl | rfl | rfl | rfl
  ·by_cases hz:(rVal 0 bs p1).2.2.1=0
   ·refine (rone_0 num p1 (rVal 0 bs p1).1 (rVal 0 bs p1).2.2.1 (flt (rVal 0 bs p1).2.2.1 p1) (rVal 0 bs p1).2.2.2 w q A c bs p hhd rfl rfl hz h).mono ?_
    rintro e' w' ⟨e1,hr,ho⟩
    exact ⟨.inl ⟨hz,none,0,e1,Sl.nil_ _,fun g _=>far_none g⟩,hr,ho⟩
   ·refine (rone_0x num p1 (rVal 0 bs p1).1 (rVal 0 bs p1).2.2.1 (flt (rVal 0 bs p1).2.2.1 p1) (rVal 0 bs p1).2.2.2 w q A c bs p hhd rfl rfl hz h).mono ?_
    rintro e' w' ⟨e1,hr,ho⟩
    exact ⟨.inr ⟨hz,e1⟩,hr,ho⟩
  ·by_cases hz:(rVal 1 bs p1).2.2.1=0
   ·refine (rone_1 num p1 (rVal 1 bs p1).1 (rVal 1 bs p1).2.2.1 (flt (rVal 1 bs p1).2.2.1 p1) (rVal 1 bs p1).2.2.2 w q A c bs p hhd rfl rfl hz h).mono ?_
    rintro e' w' ⟨e1,hr,ho⟩
    exact ⟨.inl ⟨hz,none,0,e1,Sl.nil_ _,fun g _=>far_none g⟩,hr,ho⟩
   ·refine (rone_1x num p1 (rVal 1 bs p1).1 (rVal 1 bs p1).2.2.1 (flt (rVal 1 bs p1).2.2.1 p1) (rVal 1 bs p1).2.2.2 w q A c bs p hhd rfl rfl hz h).mono ?_
    rintro e' w' ⟨e1,hr,ho⟩
    exact ⟨.inr ⟨hz,e1⟩,hr,ho⟩
  ·by_cases hz:(rVal 2 bs p1).2.2.1=0
   ·refine (rone_2 num p1 (rVal 2 bs p1).2.2.1 (flt (rVal 2 bs p1).2.2.1 p1) (rVal 2 bs p1).2.2.2 (rVal 2 bs p1).2.1 (rVal 2 bs p1).2.1.length w q A c bs p hbl hhd rfl rfl rfl hz h).mono ?_
    rintro e' w' ⟨A',c',e1,hs,hf,hr,ho⟩
    exact ⟨.inl ⟨hz,A',c',e1,hs,hf⟩,hr,ho⟩
   ·refine (rone_2x num p1 (rVal 2 bs p1).2.2.1 (flt (rVal 2 bs p1).2.2.1 p1) (rVal 2 bs p1).2.2.2 (rVal 2 bs p1).2.1 (rVal 2 bs p1).2.1.length w q A c bs p hbl hhd rfl rfl rfl hz h).mono ?_
    rintro e' w' ⟨e1,hr,ho⟩
    exact ⟨.inr ⟨hz,e1⟩,hr,ho⟩
  ·by_cases hz:(rVal 5 bs p1).2.2.1=0
   ·refine (rone_5 num p1 (rVal 5 bs p1).1 (rVal 5 bs p1).2.2.1 (flt (rVal 5 bs p1).2.2.1 p1) (rVal 5 bs p1).2.2.2 w q A c bs p hhd rfl rfl hz h).mono ?_
    rintro e' w' ⟨e1,hr,ho⟩
    exact ⟨.inl ⟨hz,none,0,e1,Sl.nil_ _,fun g _=>far_none g⟩,hr,ho⟩
   ·refine (rone_5x num p1 (rVal 5 bs p1).1 (rVal 5 bs p1).2.2.1 (flt (rVal 5 bs p1).2.2.1 p1) (rVal 5 bs p1).2.2.2 w q A c bs p hhd rfl rfl hz h).mono ?_
    rintro e' w' ⟨e1,hr,ho⟩
    exact ⟨.inr ⟨hz,e1⟩,hr,ho⟩
 ·have hr:rOne bs p=⟨0,0,0,[],(rHead bs p).2.2.1,p,p⟩:=by unfold rOne;rw [if_neg he]
  rw [hr]
  refine (rone_bad (rHead bs p).2.2.1 w q A c bs p rfl he h).mono ?_
  rintro e' w' ⟨e1,hr,ho⟩
  exact ⟨.inr ⟨he,e1⟩,hr,ho⟩
end Go.Proofs.YtpmfdlghckfgiaaGreat
