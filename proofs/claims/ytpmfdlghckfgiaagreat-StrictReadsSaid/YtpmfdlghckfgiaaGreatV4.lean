/- The document's Clean and Check of message -/
import Derived.Test.YtpmfdlghckfgiaaGreatV3
import Derived.Test.YtpmfdlghckfgiaaGreatG12
set_option linter.unusedVariables false
set_option maxRecDepth 100000
set_option maxHeartbeats 16000000
namespace Go.Proofs.YtpmfdlghckfgiaaGreat
open Go.RowKit
theorem held13 {w w':World} (hc:Below w.heap.size w w') {p0 p1 p2 p3 p4 p5 p6 p7 p8 p9 p10 p11 p12:Addr} {x0 x1 x2 x3 x4 x5 x6 x7 x8 x9 x10 x11 x12:Value} (h:w.cell? p0=some x0/\w.cell? p1=some x1/\w.cell? p2=some x2/\w.cell? p3=some x3/\w.cell? p4=some x4/\w.cell? p5=some x5/\w.cell? p6=some x6/\w.cell? p7=some x7/\w.cell? p8=some x8/\w.cell? p9=some x9/\w.cell? p10=some x10/\w.cell? p11=some x11/\w.cell? p12=some x12):w'.cell? p0=some x0/\w'.cell? p1=some x1/\w'.cell? p2=some x2/\w'.cell? p3=some x3/\w'.cell? p4=some x4/\w'.cell? p5=some x5/\w'.cell? p6=some x6/\w'.cell? p7=some x7/\w'.cell? p8=some x8/\w'.cell? p9=some x9/\w'.cell? p10=some x10/\w'.cell? p11=some x11/\w'.cell? p12=some x12:=by
 obtain ⟨h0,h1,h2,h3,h4,h5,h6,h7,h8,h9,h10,h11,h12⟩:=h
 have f:∀ (p:Addr) (x:Value),w.cell? p=some x->w'.cell? p=some x:=fun p x h=>(hc.cell (World.block_lt_of_cell? w p h)).trans h
 exact ⟨f _ _ h0,f _ _ h1,f _ _ h2,f _ _ h3,f _ _ h4,f _ _ h5,f _ _ h6,f _ _ h7,f _ _ h8,f _ _ h9,f _ _ h10,f _ _ h11,f _ _ h12⟩
theorem kc_i64 (k:Int) (i:Nat) (x:Int):(#[.int .u8 k,.int .u64 0,.int .u64 0,.int .u64 0,.int .u64 0,.int .u64 0,.int .u64 0,.string ⟨#[]⟩,.string ⟨#[]⟩,.slice none 0 0]:Array Value)[i]? ≠ some (.int .i64 x):=by
 match i with
 | 0=>simp
 | 1=>simp
 | 2=>simp
 | 3=>simp
 | 4=>simp
 | 5=>simp
 | 6=>simp
 | 7=>simp
 | 8=>simp
 | 9=>simp
 | n+10=>simp
def clA (m:MV) (l:List SRow):Array Value:=mvA (keptM l m)
theorem clA_zero (m:MV):clA m []=#[.int .u8 (m.k:Int),.int .u64 0,.int .u64 0,.int .u64 0,.int .u64 0,.int .u64 0,.int .u64 0,.string ⟨#[]⟩,.string ⟨#[]⟩,.slice none 0 0]:=by
 unfold clA mvA keptM;simp [mkN,mkS,mkL,ka,kb]
theorem clA_num (m:MV) (l:List SRow) (r:SRow) (h:r.typ<=6) (hs:r.slot<=5):(clA m l).setIfInBounds (1+r.slot) (.int .u64 (m.num (r.slot:Nat):Nat))=clA m (l++[r]):=by
 have hi:r.slot=0\/r.slot=1\/r.slot=2\/r.slot=3\/r.slot=4\/r.slot=5:=by omega
 have h7:¬ (7<=r.typ/\r.typ<=9):=by omega
 have h10:¬ r.typ=10:=by omega
 unfold clA mvA keptM
 simp only [mkN_app,mkS_app,mkL_app]
 rcases hi with hi | hi | hi | hi | hi | hi <;> rw [hi] <;> simp [h,h7,h10,ka,kb,MV.num]
theorem clA_text (m:MV) (l:List SRow) (r:SRow) (h:7<=r.typ/\r.typ<=9) (hs:r.slot<=1):(clA m l).setIfInBounds (7+r.slot) (.string (m.text (r.slot:Nat)))=clA m (l++[r]):=by
 have hi:r.slot=0\/r.slot=1:=by omega
 have h7:¬ r.typ<=6:=by omega
 have h10:¬ r.typ=10:=by omega
 unfold clA mvA keptM
 simp only [mkN_app,mkS_app,mkL_app]
 rcases hi with hi | hi <;> rw [hi] <;> simp [h,h7,h10,ka,kb,MV.text]
theorem clA_list (m:MV) (l:List SRow) (r:SRow) (h:r.typ=10):(clA m l).setIfInBounds 9 (.slice m.A m.l.length m.c)=clA m (l++[r]):=by
 have h7:¬ r.typ<=6:=by omega
 have h9:¬ (7<=r.typ/\r.typ<=9):=by omega
 unfold clA mvA keptM
 simp only [mkN_app,mkS_app,mkL_app]
 simp [h,ka,kb]
theorem clA_cell (m:MV) (l:List SRow) (i:Nat) (h:i < 10):∃ u,(clA m l)[i]? = some u:=by
 have hi:i=0\/i=1\/i=2\/i=3\/i=4\/i=5\/i=6\/i=7\/i=8\/i=9:=by omega
 rcases hi with rfl | rfl | rfl | rfl | rfl | rfl | rfl | rfl | rfl | rfl <;> exact ⟨_,rfl⟩
theorem rclean_any (m:MV) (v:Int) (w:World) (hk:m.k<=255) (hv1 : -9223372036854775808<=v) (hv2:v<=9223372036854775807):Calls Tryz.prog 40 #[mvV m,.int .i64 v] w fun e w'=>e=.returned (mvV (keptM (ofL (m.k:Int) v) m))/\Below w.heap.size w w':=by
 have hof:=fun W=>r8of_any (m.k:Int) v W (by omega) (by omega) hv1 hv2
 unfold OfR at hof
 have hq40:=ofL_le40 (m.k:Int) v
 have hmem:∀ r ∈ ofL (m.k:Int) v,r ∈ ROWS:=fun r hr=>ofL_mem _ v hr
 generalize ofL (m.k:Int) v=L at *
 have hpl:=fun (num t i:Int) W=>rplace_any m num t i W
 have hcz:=clA_zero m
 have hcn:=clA_num m
 have hct:=clA_text m
 have hcl:=clA_list m
 have hcc:=clA_cell m
 have p1:=pl_num m
 have p7:=pl_text m
 have p10:=pl_list m
 obtain ⟨a1,a2,a3,a4,a5,a6,t7,t8,ad9,ln9,cp9,hx⟩:∃ (a1 a2 a3 a4 a5 a6:Nat) (t7 t8:ByteArray) (ad9:Option Addr) (ln9 cp9:Nat),clA m L=#[.int .u8 (m.k:Int),.int .u64 (a1:Int),.int .u64 (a2:Int),.int .u64 (a3:Int),.int .u64 (a4:Int),.int .u64 (a5:Int),.int .u64 (a6:Int),.string t7,.string t8,.slice ad9 ln9 cp9]:=⟨_,_,_,_,_,_,_,_,_,_,_,rfl⟩
 have hvx:mvV (keptM L m)=.agg #[.int .u8 (m.k:Int),.int .u64 (a1:Int),.int .u64 (a2:Int),.int .u64 (a3:Int),.int .u64 (a4:Int),.int .u64 (a5:Int),.int .u64 (a6:Int),.string t7,.string t8,.slice ad9 ln9 cp9]:=by rw [<-hx];rfl
 rw [hvx]
 clear hvx
 generalize clA m=cl at *
 obtain ⟨len,hlen⟩:∃ n,m.l.length=n:=⟨_,rfl⟩
 unfold mvV mvA at *
 rw [hlen] at p10 hcl hpl ⊢
 obtain ⟨nL,hnL⟩:∃ n,L.length=n:=⟨_,rfl⟩
 rw [hnL] at hq40 hof
 obtain ⟨s,hws⟩:∃ s,w.heap.size=s:=⟨_,rfl⟩
 have HNL:=hid hnL
 have HOF:=hid hof
 have HPL:=hid hpl
 have HMEM:=hid hmem
 have HCZ:=hid hcz
 have HCN:=hid hcn
 have HCT:=hid hct
 have HCL:=hid hcl
 have HCC:=hid hcc
 have HP1:=hid p1
 have HP7:=hid p7
 have HP10:=hid p10
 have HXX:=hid hx
 clear hlen hnL hof hpl hmem hcz hcn hct hcl hcc p1 p7 p10 hx
 rw [hws]
 go_enter Tryz.func40,Tryz.ntmps40
 go_wp2_with fail
 have hz:(((w.alloc (.cells #[.int .u8 (m.k:Int),.int .u64 (m.n0:Int),.int .u64 (m.n1:Int),.int .u64 (m.n2:Int),.int .u64 (m.n3:Int),.int .u64 (m.n4:Int),.int .u64 (m.n5:Int),.string m.s0,.string m.s1,.slice m.A len m.c] 29)).alloc (.cells #[.int .u8 0,.int .u64 0,.int .u64 0,.int .u64 0,.int .u64 0,.int .u64 0,.int .u64 0,.string ⟨#[]⟩,.string ⟨#[]⟩,.slice none 0 0] 29)).alloc (.cells #[.int .u8 (m.k:Int),.int .u64 0,.int .u64 0,.int .u64 0,.int .u64 0,.int .u64 0,.int .u64 0,.string ⟨#[]⟩,.string ⟨#[]⟩,.slice none 0 0] 29)).heap.size=s+3:=by simp [hws]
 have hb0:=bw_a (bw_a (bw_a (Below.refl w.heap.size w) (.cells #[.int .u8 (m.k:Int),.int .u64 (m.n0:Int),.int .u64 (m.n1:Int),.int .u64 (m.n2:Int),.int .u64 (m.n3:Int),.int .u64 (m.n4:Int),.int .u64 (m.n5:Int),.string m.s0,.string m.s1,.slice m.A len m.c] 29)) (.cells #[.int .u8 0,.int .u64 0,.int .u64 0,.int .u64 0,.int .u64 0,.int .u64 0,.int .u64 0,.string ⟨#[]⟩,.string ⟨#[]⟩,.slice none 0 0] 29)) (.cells #[.int .u8 (m.k:Int),.int .u64 0,.int .u64 0,.int .u64 0,.int .u64 0,.int .u64 0,.int .u64 0,.string ⟨#[]⟩,.string ⟨#[]⟩,.slice none 0 0] 29)
 have hk0:=((Blk.new w 29 #[.int .u8 (m.k:Int),.int .u64 (m.n0:Int),.int .u64 (m.n1:Int),.int .u64 (m.n2:Int),.int .u64 (m.n3:Int),.int .u64 (m.n4:Int),.int .u64 (m.n5:Int),.string m.s0,.string m.s1,.slice m.A len m.c]).alloc (.cells #[.int .u8 0,.int .u64 0,.int .u64 0,.int .u64 0,.int .u64 0,.int .u64 0,.int .u64 0,.string ⟨#[]⟩,.string ⟨#[]⟩,.slice none 0 0] 29)).alloc (.cells #[.int .u8 (m.k:Int),.int .u64 0,.int .u64 0,.int .u64 0,.int .u64 0,.int .u64 0,.int .u64 0,.string ⟨#[]⟩,.string ⟨#[]⟩,.slice none 0 0] 29)
 have hk1:=(Blk.new (w.alloc (.cells #[.int .u8 (m.k:Int),.int .u64 (m.n0:Int),.int .u64 (m.n1:Int),.int .u64 (m.n2:Int),.int .u64 (m.n3:Int),.int .u64 (m.n4:Int),.int .u64 (m.n5:Int),.string m.s0,.string m.s1,.slice m.A len m.c] 29)) 29 #[.int .u8 0,.int .u64 0,.int .u64 0,.int .u64 0,.int .u64 0,.int .u64 0,.int .u64 0,.string ⟨#[]⟩,.string ⟨#[]⟩,.slice none 0 0]).alloc (.cells #[.int .u8 (m.k:Int),.int .u64 0,.int .u64 0,.int .u64 0,.int .u64 0,.int .u64 0,.int .u64 0,.string ⟨#[]⟩,.string ⟨#[]⟩,.slice none 0 0] 29)
 have hk2:=Blk.new ((w.alloc (.cells #[.int .u8 (m.k:Int),.int .u64 (m.n0:Int),.int .u64 (m.n1:Int),.int .u64 (m.n2:Int),.int .u64 (m.n3:Int),.int .u64 (m.n4:Int),.int .u64 (m.n5:Int),.string m.s0,.string m.s1,.slice m.A len m.c] 29)).alloc (.cells #[.int .u8 0,.int .u64 0,.int .u64 0,.int .u64 0,.int .u64 0,.int .u64 0,.int .u64 0,.string ⟨#[]⟩,.string ⟨#[]⟩,.slice none 0 0] 29)) 29 #[.int .u8 (m.k:Int),.int .u64 0,.int .u64 0,.int .u64 0,.int .u64 0,.int .u64 0,.int .u64 0,.string ⟨#[]⟩,.string ⟨#[]⟩,.slice none 0 0]
 rw [World.size_alloc] at hk1 hk2
 rw [World.size_alloc] at hk2
 rw [hws] at hb0 hk0 hk1 hk2
 generalize ((w.alloc _).alloc _).alloc _=W at *
 refine (HOF.out W).mono ?_
 rintro e w1 ⟨A,c,rfl,hs1,hb1⟩
 have hk0:=hk0.below hb1 (by omega)
 have hk1:=hk1.below hb1 (by omega)
 have hk2:=hk2.below hb1 (by omega)
 have hB1:=hb0.trans (hb1.mono (by omega))
 have hw1:s+3<=w1.heap.size:=by have:=hb1.size;omega
 rw [<-HCZ.out] at hk2
 have HS1:=hid hs1
 have HK0:=hid hk0
 have HK1:=hid hk1
 have HK2:=hid hk2
 have HB1:=hid hB1
 clear hs1 hb1 hb0 hz hk0 hk1 hk2 hB1 HOF
 go_wp2_with fail
 go_loopw [7] (fun i wr=>∃ j:Nat,j<=nL/\i=.int .i64 (j:Int)/\Blk wr (s+2) 29 (cl (L.take j))/\Chg (fun q=>q=s+2) w1 wr) (fun i _=>nL - (intOf i).toNat)
 case atStart=>exact ⟨0,by omega,rfl,HK2.out,Chg.refl _ _⟩
 case round =>
  obtain ⟨j,hj,rfl,hk,hc⟩:=hrel
  have hls:=hk.lt
  by_cases hlt:j < nL
  ·have hjl:j < L.length:=by have:=HNL.out;omega
   have hn0':(L.flatMap specC)[j * 3+0]? = _:=flatMap_get specC 3 L j 0 hjl (fun _ _=>rfl) (by omega)
   have hn1':(L.flatMap specC)[j * 3+1]? = _:=flatMap_get specC 3 L j 1 hjl (fun _ _=>rfl) (by omega)
   have hn2':(L.flatMap specC)[j * 3+2]? = _:=flatMap_get specC 3 L j 2 hjl (fun _ _=>rfl) (by omega)
   obtain ⟨b,off,hA,hbw,t0⟩:=HS1.out.rd _ _ hn0'
   subst hA
   have hbs:b ≠ s+2:=by
    intro e
    subst e
    have h2:=HK2.out
    rw [HCZ.out] at h2
    have h1:=h2.cell (off+(j * 3+0))
    rw [t0] at h1
    exact kc_i64 _ _ _ h1.symm
   have t1:=HS1.out.rd.addr _ _ hn1'
   have t2:=HS1.out.rd.addr _ _ hn2'
   rw [addr_add] at t1 t2
   simp only [Nat.add_zero,<-Nat.add_assoc] at t0 t1 t2
   have hbb:=hc.block b hbw hbs
   have t0:=(World.cell?_of_block (a:=⟨b,off+j * 3,none⟩) hbb).trans t0
   have t1:=(World.cell?_of_block (a:=⟨b,off+j * 3+1,none⟩) hbb).trans t1
   have t2:=(World.cell?_of_block (a:=⟨b,off+j * 3+2,none⟩) hbb).trans t2
   have hm:=hc.blk HK0.out (by omega)
   have c0:=hm.cell 0
   have c1:=hm.cell 1
   have c2:=hm.cell 2
   have c3:=hm.cell 3
   have c4:=hm.cell 4
   have c5:=hm.cell 5
   have c6:=hm.cell 6
   have c7:=hm.cell 7
   have c8:=hm.cell 8
   have c9:=hm.cell 9
   simp only [gA,gB,gC] at c0 c1 c2 c3 c4 c5 c6 c7 c8 c9
   have hji:(j:Int) < (nL:Int):=by omega
   have hj0:(0:Int)<=(j:Int):=by omega
   have hro:=row_ok2 (HMEM.out L[j] (List.getElem_mem hjl))
   have hcn:=HCN.out (L.take j) L[j]
   have hct:=HCT.out (L.take j) L[j]
   have hcl:=HCL.out (L.take j) L[j]
   have htk:L.take (j+1)=L.take j++[L[j]]:=List.take_succ_eq_append_getElem hjl
   rw [<-htk] at hcn hct hcl
   have hcell:=HCC.out (L.take j)
   have hpl:=fun W=>HPL.out (L[j].num:Nat) (L[j].typ:Nat) (L[j].slot:Nat) W
   have p1:=HP1.out (L[j].typ:Nat) (L[j].slot:Nat)
   have p7:=HP7.out (L[j].typ:Nat) (L[j].slot:Nat)
   have p10:=HP10.out (L[j].slot:Nat)
   obtain ⟨Lj1,hLj1⟩:∃ x,L.take (j+1)=x:=⟨_,rfl⟩
   rw [hLj1] at hcn hct hcl
   have HLJ:=hid hLj1
   clear hLj1
   generalize L.take j=Lj at *
   clear hn0' hn1' hn2' htk hbb
   generalize L[j]=r at *
   obtain ⟨rk,si,nu,ty,sl⟩:=r
   simp only at t0 t1 t2 hro hcn hct hcl hpl p1 p7 p10
   obtain ⟨hro1,hro2,hro3,hro4⟩:=hro
   have HCJ:=hid hcell
   have HKW:=hid hk
   have HCW:=hid hc
   have HBW:=hid (HB1.out.trans (hc.below (B:=s) (fun q hq=>by omega) (by omega)))
   have HC:=hid (And.intro c0 (And.intro c1 (And.intro c2 (And.intro c3 (And.intro c4 (And.intro c5 (And.intro c6 (And.intro c7 (And.intro c8 (And.intro c9 (And.intro t0 (And.intro t1 t2))))))))))))
   clear hcell hk hc hm
   have hcase:ty<=6\/(7<=ty/\ty<=9)\/ty=10:=by omega
   rcases hcase with h | h | rfl
   ·obtain ⟨q1,q2,q3⟩:=p1 (by omega)
    rw [q1,q2,q3] at hpl
    have hset:=hcn h hro3
    have tI:(ty:Int)<=6:=by omega
    have sI:(sl:Int) < 6:=by omega
    clear p10 q1 q2 q3 hcn hct hcl
    generalize m.num (sl:Nat)=x at *
    have HPP:=hid hpl
    have HSET:=hid hset
    have sI0:(0:Int)<=(sl:Int):=by omega
    clear hpl hset
    go_wp2_with fail
    go_region_held3 (fun w'=>w'.cell? ⟨s,0,none⟩=some (.int .u8 (m.k:Int))/\w'.cell? ⟨s,1,none⟩=some (.int .u64 (m.n0:Int))/\w'.cell? ⟨s,2,none⟩=some (.int .u64 (m.n1:Int))/\w'.cell? ⟨s,3,none⟩=some (.int .u64 (m.n2:Int))/\w'.cell? ⟨s,4,none⟩=some (.int .u64 (m.n3:Int))/\w'.cell? ⟨s,5,none⟩=some (.int .u64 (m.n4:Int))/\w'.cell? ⟨s,6,none⟩=some (.int .u64 (m.n5:Int))/\w'.cell? ⟨s,7,none⟩=some (.string m.s0)/\w'.cell? ⟨s,8,none⟩=some (.string m.s1)/\w'.cell? ⟨s,9,none⟩=some (.slice m.A len m.c)/\w'.cell? ⟨b,off+j * 3,none⟩=some (.int .i64 (nu:Int))/\w'.cell? ⟨b,off+j * 3+1,none⟩=some (.int .i64 (ty:Int))/\w'.cell? ⟨b,off+j * 3+2,none⟩=some (.int .i64 (sl:Int))) (first | exact HC2.out | exact HC.out | go_keep) (first | (go_at_call 42;refine (HPP.out _).mono ?_;rintro e w2 ⟨rfl,hb2⟩;have HC2:=hid (held13 (w:=wr.drewN 1) hb2 HC.out)))
    obtain ⟨y0,y1,y2,y3,y4,y5,y6,y7,y8,y9,z0,z1,z2⟩:=HC2.out
    have hbw2:=bw_t (bw_d (Below.refl _ wr) 1) hb2
    have hk2:=HKW.out.below hbw2 hls
    have hl2:=hk2.lt
    have hc2:=HCW.out.trans (Chg.of_new hbw2)
    obtain ⟨u,hu⟩:=HCJ.out (1+sl) (by omega)
    have g0:=(hk2.cell (1+sl)).trans hu
    have g1:=hk2.frozen (1+sl)
    have hf:=hk2.set_ (1+sl) (.int .u64 (x:Int))
    rw [HSET.out] at hf
    have hc3:=hc2.set_ (g:=s+2) (.inl rfl) (1+sl) (.int .u64 (x:Int))
    have HF:=hid hf
    have HC3:=hid hc3
    clear hb2 hbw2 hk2 hc2 hu hf hc3 HC HC2 y0 y1 y2 y3 y4 y5 y6 y7 y8 y9 t0 t1 t2 c0 c1 c2 c3 c4 c5 c6 c7 c8 c9
    go_wp2_with fail
    exact ⟨⟨j+1,by omega,by go_num,by rw [HLJ.out];exact HF.out,HC3.out⟩,by simp [intOf] <;> omega⟩
   ·obtain ⟨q1,q2,q3⟩:=p7 (by omega)
    rw [q1,q2,q3] at hpl
    have hset:=hct h (hro4 h.1 h.2)
    have tI:¬ (ty:Int)<=6:=by omega
    have tJ:(ty:Int)<=9:=by omega
    have sI:(sl:Int) < 2:=by have:=hro4 h.1 h.2;omega
    clear p10 q1 q2 q3 hcn hct hcl
    generalize m.text (sl:Nat)=x at *
    have HPP:=hid hpl
    have HSET:=hid hset
    have sI0:(0:Int)<=(sl:Int):=by omega
    clear hpl hset
    go_wp2_with fail
    go_region_held3 (fun w'=>w'.cell? ⟨s,0,none⟩=some (.int .u8 (m.k:Int))/\w'.cell? ⟨s,1,none⟩=some (.int .u64 (m.n0:Int))/\w'.cell? ⟨s,2,none⟩=some (.int .u64 (m.n1:Int))/\w'.cell? ⟨s,3,none⟩=some (.int .u64 (m.n2:Int))/\w'.cell? ⟨s,4,none⟩=some (.int .u64 (m.n3:Int))/\w'.cell? ⟨s,5,none⟩=some (.int .u64 (m.n4:Int))/\w'.cell? ⟨s,6,none⟩=some (.int .u64 (m.n5:Int))/\w'.cell? ⟨s,7,none⟩=some (.string m.s0)/\w'.cell? ⟨s,8,none⟩=some (.string m.s1)/\w'.cell? ⟨s,9,none⟩=some (.slice m.A len m.c)/\w'.cell? ⟨b,off+j * 3,none⟩=some (.int .i64 (nu:Int))/\w'.cell? ⟨b,off+j * 3+1,none⟩=some (.int .i64 (ty:Int))/\w'.cell? ⟨b,off+j * 3+2,none⟩=some (.int .i64 (sl:Int))) (first | exact HC2.out | exact HC.out | go_keep) (first | (go_at_call 42;refine (HPP.out _).mono ?_;rintro e w2 ⟨rfl,hb2⟩;have HC2:=hid (held13 (w:=wr.drewN 1) hb2 HC.out)))
    obtain ⟨y0,y1,y2,y3,y4,y5,y6,y7,y8,y9,z0,z1,z2⟩:=HC2.out
    have hbw2:=bw_t (bw_d (Below.refl _ wr) 1) hb2
    have hk2:=HKW.out.below hbw2 hls
    have hl2:=hk2.lt
    have hc2:=HCW.out.trans (Chg.of_new hbw2)
    obtain ⟨u,hu⟩:=HCJ.out (7+sl) (by omega)
    have g0:=(hk2.cell (7+sl)).trans hu
    have g1:=hk2.frozen (7+sl)
    have hf:=hk2.set_ (7+sl) (.string x)
    rw [HSET.out] at hf
    have hc3:=hc2.set_ (g:=s+2) (.inl rfl) (7+sl) (.string x)
    have HF:=hid hf
    have HC3:=hid hc3
    clear hb2 hbw2 hk2 hc2 hu hf hc3 HC HC2 y0 y1 y2 y3 y4 y5 y6 y7 y8 y9 t0 t1 t2 c0 c1 c2 c3 c4 c5 c6 c7 c8 c9
    go_wp2_with fail
    exact ⟨⟨j+1,by omega,by go_num,by rw [HLJ.out];exact HF.out,HC3.out⟩,by simp [intOf] <;> omega⟩
   ·rw [show ((10:Nat):Int)=10 from rfl] at hpl t1
    obtain ⟨q1,q2,q3⟩:=p10
    rw [q1,q2,q3] at hpl
    have hset:=hcl rfl
    skip
    skip
    clear p1 p7 q1 q2 q3 hcn hct hcl
    skip
    have HPP:=hid hpl
    have HSET:=hid hset
    have sI0:(0:Int)<=(sl:Int):=by omega
    clear hpl hset
    go_wp2_with fail
    go_region_held3 (fun w'=>w'.cell? ⟨s,0,none⟩=some (.int .u8 (m.k:Int))/\w'.cell? ⟨s,1,none⟩=some (.int .u64 (m.n0:Int))/\w'.cell? ⟨s,2,none⟩=some (.int .u64 (m.n1:Int))/\w'.cell? ⟨s,3,none⟩=some (.int .u64 (m.n2:Int))/\w'.cell? ⟨s,4,none⟩=some (.int .u64 (m.n3:Int))/\w'.cell? ⟨s,5,none⟩=some (.int .u64 (m.n4:Int))/\w'.cell? ⟨s,6,none⟩=some (.int .u64 (m.n5:Int))/\w'.cell? ⟨s,7,none⟩=some (.string m.s0)/\w'.cell? ⟨s,8,none⟩=some (.string m.s1)/\w'.cell? ⟨s,9,none⟩=some (.slice m.A len m.c)/\w'.cell? ⟨b,off+j * 3,none⟩=some (.int .i64 (nu:Int))/\w'.cell? ⟨b,off+j * 3+1,none⟩=some (.int .i64 10)/\w'.cell? ⟨b,off+j * 3+2,none⟩=some (.int .i64 (sl:Int))) (first | exact HC2.out | exact HC.out | go_keep) (first | (go_at_call 42;refine (HPP.out _).mono ?_;rintro e w2 ⟨rfl,hb2⟩;have HC2:=hid (held13 (w:=wr.drewN 1) hb2 HC.out)))
    obtain ⟨y0,y1,y2,y3,y4,y5,y6,y7,y8,y9,z0,z1,z2⟩:=HC2.out
    have hbw2:=bw_t (bw_d (Below.refl _ wr) 1) hb2
    have hk2:=HKW.out.below hbw2 hls
    have hl2:=hk2.lt
    have hc2:=HCW.out.trans (Chg.of_new hbw2)
    obtain ⟨u,hu⟩:=HCJ.out (9) (by omega)
    have g0:=(hk2.cell (9)).trans hu
    have g1:=hk2.frozen (9)
    have hf:=hk2.set_ (9) (.slice m.A len m.c)
    rw [HSET.out] at hf
    have hc3:=hc2.set_ (g:=s+2) (.inl rfl) (9) (.slice m.A len m.c)
    have HF:=hid hf
    have HC3:=hid hc3
    clear hb2 hbw2 hk2 hc2 hu hf hc3 HC HC2 y0 y1 y2 y3 y4 y5 y6 y7 y8 y9 t0 t1 t2 c0 c1 c2 c3 c4 c5 c6 c7 c8 c9
    go_wp2_with fail
    exact ⟨⟨j+1,by omega,by go_num,by rw [HLJ.out];exact HF.out,HC3.out⟩,by simp [intOf] <;> omega⟩
  ·obtain rfl:j=nL:=by omega
   rw [List.take_of_length_le (by have:=HNL.out;omega),HXX.out] at hk
   have hr:=hc.blk HK1.out (by omega)
   have c0:=hk.cell 0
   have c1:=hk.cell 1
   have c2:=hk.cell 2
   have c3:=hk.cell 3
   have c4:=hk.cell 4
   have c5:=hk.cell 5
   have c6:=hk.cell 6
   have c7:=hk.cell 7
   have c8:=hk.cell 8
   have c9:=hk.cell 9
   simp only [gA,gB,gC] at c0 c1 c2 c3 c4 c5 c6 c7 c8 c9
   have d0:=hr.cell 0
   have g0:=hr.frozen 0
   have d1:=hr.cell 1
   have g1:=hr.frozen 1
   have d2:=hr.cell 2
   have g2:=hr.frozen 2
   have d3:=hr.cell 3
   have g3:=hr.frozen 3
   have d4:=hr.cell 4
   have g4:=hr.frozen 4
   have d5:=hr.cell 5
   have g5:=hr.frozen 5
   have d6:=hr.cell 6
   have g6:=hr.frozen 6
   have d7:=hr.cell 7
   have g7:=hr.frozen 7
   have d8:=hr.cell 8
   have g8:=hr.frozen 8
   have d9:=hr.cell 9
   have g9:=hr.frozen 9
   simp only [gA,gB,gC] at d0 d1 d2 d3 d4 d5 d6 d7 d8 d9
   have hend:=mstore hr (.int .u8 (m.k:Int)) (.int .u64 (a1:Int)) (.int .u64 (a2:Int)) (.int .u64 (a3:Int)) (.int .u64 (a4:Int)) (.int .u64 (a5:Int)) (.int .u64 (a6:Int)) (.string t7) (.string t8) (.slice ad9 ln9 cp9)
   have hbr:=HB1.out.trans (hc.below (B:=s) (fun q hq=>by omega) (by omega))
   have hlr:=hr.lt
   have HE:=hid hend
   have HBR:=hid hbr
   clear hend hbr hk hr hc
   go_wp2_with fail
   have hB:=HBR.out.trans (HE.out.2.below (B:=s) (fun g hg=>by omega) (by omega))
   have hbk:=HE.out.1
   have r0:=hbk.cell 0
   have r1:=hbk.cell 1
   have r2:=hbk.cell 2
   have r3:=hbk.cell 3
   have r4:=hbk.cell 4
   have r5:=hbk.cell 5
   have r6:=hbk.cell 6
   have r7:=hbk.cell 7
   have r8:=hbk.cell 8
   have r9:=hbk.cell 9
   clear HE hbk
   generalize World.setCell (World.setCell _ _ _) _ _=W9 at *
   simp only [gA,gB,gC] at r0 r1 r2 r3 r4 r5 r6 r7 r8 r9
   refine bodyPost_ret (v:=.agg #[.int .u8 (m.k:Int),.int .u64 (a1:Int),.int .u64 (a2:Int),.int .u64 (a3:Int),.int .u64 (a4:Int),.int .u64 (a5:Int),.int .u64 (a6:Int),.string t7,.string t8,.slice ad9 ln9 cp9]) (by simp [results,Tryz.results40,go_sem,r0,r1,r2,r3,r4,r5,r6,r7,r8,r9]) rfl ?_
   exact ⟨rfl,hB⟩
end Go.Proofs.YtpmfdlghckfgiaaGreat
namespace Go.Proofs.YtpmfdlghckfgiaaGreat
open Go.RowKit
theorem rcheck9_any (m:MV) (v:Int) (w:World) (hok:MvOk w m) (hv1 : -9223372036854775808<=v) (hv2:v<=9223372036854775807):Calls Tryz.prog 25 #[mvV m,.int .i64 v] w (FltOf w (chkV m (ofL (m.k:Int) v))):=by
 have hof:=fun W=>r8of_any (m.k:Int) v W (by omega) (by have:=hok.k;omega) hv1 hv2
 unfold OfR at hof
 have hkp:=fun W=>rclean_any m v W hok.k hv1 hv2
 have hq40:=ofL_le40 (m.k:Int) v
 generalize ofL (m.k:Int) v=L at *
 have hsm:=fun W (hW:Below w.heap.size w W)=>rsame9_any m (keptM L m) W (hok.l.below hW) (kept_sl L (hok.l.below hW))
 have hwr:=fun (num t i:Int) W (hW:Below w.heap.size w W)=>rone9_any m num t i W (hok.below hW)
 have hV:chkV m L=if L.length=0 then (7,0) else if (chkL m L).1 ≠ 0 then chkL m L else if sameB m (keptM L m) then (0,0) else (20,0):=rfl
 generalize chkV m L=R at *
 generalize mvV (keptM L m)=kv at *
 generalize sameB m (keptM L m)=sb at *
 unfold mvV mvA at *
 generalize m.l.length=len at *
 obtain ⟨nL,hnL⟩:∃ n,L.length=n:=⟨_,rfl⟩
 rw [hnL] at hV hq40 hof
 have HNL:=hid hnL
 have HSOF:=hid hof
 have HKP:=hid hkp
 have HSM:=hid hsm
 have HWR:=hid hwr
 have HV:=hid hV
 clear hok hnL hof hkp hsm hwr hV
 obtain ⟨T,hT⟩:∃ T,FltOf w R=T:=⟨_,rfl⟩
 rw [hT]
 have HTT:=hid hT
 clear hT
 obtain ⟨s,hws⟩:∃ s,w.heap.size=s:=⟨_,rfl⟩
 go_enter Tryz.func25,Tryz.ntmps25
 go_wp2_with fail
 have hz:((w.alloc (.cells #[.int .u8 (m.k:Int),.int .u64 (m.n0:Int),.int .u64 (m.n1:Int),.int .u64 (m.n2:Int),.int .u64 (m.n3:Int),.int .u64 (m.n4:Int),.int .u64 (m.n5:Int),.string m.s0,.string m.s1,.slice m.A len m.c] 29)).alloc (.cells #[.int .i64 0,.int .i64 0] 32)).heap.size=s+2:=by simp [hws]
 have hb0:=bw_a (bw_a (Below.refl w.heap.size w) (.cells #[.int .u8 (m.k:Int),.int .u64 (m.n0:Int),.int .u64 (m.n1:Int),.int .u64 (m.n2:Int),.int .u64 (m.n3:Int),.int .u64 (m.n4:Int),.int .u64 (m.n5:Int),.string m.s0,.string m.s1,.slice m.A len m.c] 29)) (.cells #[.int .i64 0,.int .i64 0] 32)
 have hk0:=(Blk.new w 29 #[.int .u8 (m.k:Int),.int .u64 (m.n0:Int),.int .u64 (m.n1:Int),.int .u64 (m.n2:Int),.int .u64 (m.n3:Int),.int .u64 (m.n4:Int),.int .u64 (m.n5:Int),.string m.s0,.string m.s1,.slice m.A len m.c]).alloc (.cells #[.int .i64 0,.int .i64 0] 32)
 have hk1:=Blk.new (w.alloc (.cells #[.int .u8 (m.k:Int),.int .u64 (m.n0:Int),.int .u64 (m.n1:Int),.int .u64 (m.n2:Int),.int .u64 (m.n3:Int),.int .u64 (m.n4:Int),.int .u64 (m.n5:Int),.string m.s0,.string m.s1,.slice m.A len m.c] 29)) 32 #[.int .i64 0,.int .i64 0]
 rw [World.size_alloc] at hk1
 rw [hws] at hb0 hk0 hk1
 generalize (w.alloc _).alloc _=W at *
 refine (HSOF.out W).mono ?_
 rintro e w1 ⟨A,c,rfl,hs1,hb1⟩
 have hk0:=hk0.below hb1 (by omega)
 have hk1:=hk1.below hb1 (by omega)
 have hB1:=hb0.trans (hb1.mono (by omega))
 have hw1:s+2<=w1.heap.size:=by have:=hb1.size;omega
 clear hb0 hb1 hz HSOF
 have HS1:=hid hs1
 have HK0:=hid hk0
 have HK1:=hid hk1
 have HB1:=hid hB1
 have hend:∀ (W9:World) (x y:Int),Below w1.heap.size w1 W9->R=(x,y)->∃ W',W'=(W9.setCell ⟨s+1,0,none⟩ (.int .i64 x)).setCell ⟨s+1,1,none⟩ (.int .i64 y)/\Blk W' (s+1) 32 #[.int .i64 x,.int .i64 y]/\FltOf w R (.returned (.agg #[.int .i64 x,.int .i64 y])) W':=by
  intro W9 x y hB hR
  have h1:=fstore (hk1.below hB hk1.lt) (.int .i64 x) (.int .i64 y)
  refine ⟨_,rfl,h1.1,by rw [hR],?_⟩
  rw [hws]
  exact (hB1.trans (hB.mono (by omega))).trans (h1.2.below (B:=s) (fun q hq=>by omega) (by have:=hB.size;omega))
 have hcl:∀ (W9:World),Below w1.heap.size w1 W9->(W9.cell? ⟨s+1,0,none⟩=some (.int .i64 0)/\W9.cell? ⟨s+1,1,none⟩=some (.int .i64 0)/\W9.frozen? ⟨s+1,0,none⟩=false/\W9.frozen? ⟨s+1,1,none⟩=false):=by
  intro W9 hB
  have h1:=hk1.below hB hk1.lt
  exact ⟨h1.cell 0,h1.cell 1,h1.frozen 0,h1.frozen 1⟩
 have hcm:∀ (W9:World),Below w1.heap.size w1 W9->Blk W9 s 29 #[.int .u8 (m.k:Int),.int .u64 (m.n0:Int),.int .u64 (m.n1:Int),.int .u64 (m.n2:Int),.int .u64 (m.n3:Int),.int .u64 (m.n4:Int),.int .u64 (m.n5:Int),.string m.s0,.string m.s1,.slice m.A len m.c]:=fun W9 hB=>hk0.below hB hk0.lt
 have HEND:=hid hend
 have HCL:=hid hcl
 have HCM:=hid hcm
 clear hend hcl hcm hs1 hk0 hk1 hB1 HK1 HK0
 by_cases hn0:nL=0
 ·have hR:=HV.out
  rw [if_pos hn0] at hR
  subst hn0
  have HY:=hid hR
  clear hR
  obtain ⟨c0,c1,f0,f1⟩:=HCL.out w1 (Below.refl _ _)
  go_wp2_with fail
  obtain ⟨W',hW',hbk,hfl⟩:=HEND.out w1 7 0 (Below.refl _ _) HY.out
  rw [<-hW']
  have r0:=hbk.cell 0
  have r1:=hbk.cell 1
  simp only [gA,gB,gC] at r0 r1
  clear hW'
  refine bodyPost_ret (v:=.agg #[.int .i64 7,.int .i64 0]) (by simp [results,Tryz.results25,go_sem,r0,r1]) rfl ?_
  rw [<-HTT.out]
  exact hfl
 have hn1:0 < nL:=by omega
 have hnb:((nL:Int) == 0)=false:=by simp;omega
 have hR:=HV.out
 rw [if_neg hn0] at hR
 have HR:=hid hR
 clear hR HV
 go_wp2_with fail
 go_loopw [6] (fun i wr=>∃ j:Nat,j<=nL/\i=.int .i64 (j:Int)/\chkL m L=chkL m (L.drop j)/\Below w1.heap.size w1 wr) (fun i _=>nL - (intOf i).toNat)
 case atStart=>exact ⟨0,by omega,rfl,rfl,Below.refl _ _⟩
 case round =>
  obtain ⟨j,hj,rfl,hch,hB⟩:=hrel
  have hk:=HCM.out wr hB
  have c0:=hk.cell 0
  have c1:=hk.cell 1
  have c2:=hk.cell 2
  have c3:=hk.cell 3
  have c4:=hk.cell 4
  have c5:=hk.cell 5
  have c6:=hk.cell 6
  have c7:=hk.cell 7
  have c8:=hk.cell 8
  have c9:=hk.cell 9
  simp only [gA,gB,gC] at c0 c1 c2 c3 c4 c5 c6 c7 c8 c9
  have hls:=hk.lt
  by_cases hlt:j < nL
  ·have hjl:j < L.length:=by have:=HNL.out;omega
   have hn0':(L.flatMap specC)[j * 3+0]? = _:=flatMap_get specC 3 L j 0 hjl (fun _ _=>rfl) (by omega)
   have hn1':(L.flatMap specC)[j * 3+1]? = _:=flatMap_get specC 3 L j 1 hjl (fun _ _=>rfl) (by omega)
   have hn2':(L.flatMap specC)[j * 3+2]? = _:=flatMap_get specC 3 L j 2 hjl (fun _ _=>rfl) (by omega)
   obtain ⟨b,off,hA,hbw,t0⟩:=HS1.out.rd _ _ hn0'
   subst hA
   have t1:=HS1.out.rd.addr _ _ hn1'
   have t2:=HS1.out.rd.addr _ _ hn2'
   rw [addr_add] at t1 t2
   simp only [Nat.add_zero,<-Nat.add_assoc] at t0 t1 t2
   have t0:=(hB.cell (p:=⟨b,off+j * 3,none⟩) hbw).trans t0
   have t1:=(hB.cell (p:=⟨b,off+j * 3+1,none⟩) hbw).trans t1
   have t2:=(hB.cell (p:=⟨b,off+j * 3+2,none⟩) hbw).trans t2
   have hji:(j:Int) < (nL:Int):=by omega
   have hj0:(0:Int)<=(j:Int):=by omega
   have hat:=chkL_at (m:=m) hjl
   rw [<-hch,fldE_eq] at hat
   have hwr:=fun W hW=>HWR.out (L[j].num:Nat) (L[j].typ:Nat) (L[j].slot:Nat) W hW
   clear hn0' hn1' hn2'
   generalize wrongE m (L[j].typ:Nat) (L[j].slot:Nat)=we at *
   generalize L[j]=r at *
   obtain ⟨rk,si,nu,ty,sl⟩:=r
   simp only at t0 t1 t2 hat hwr
   have HAT:=hid hat
   have HW:=hid hwr
   have HBB:=hid hB
   have HCH:=hid hch
   have HC:=hid (And.intro c0 (And.intro c1 (And.intro c2 (And.intro c3 (And.intro c4 (And.intro c5 (And.intro c6 (And.intro c7 (And.intro c8 (And.intro c9 (And.intro t0 (And.intro t1 t2))))))))))))
   clear hat hwr hB hch hk
   have hWd:Below w.heap.size w (wr.drewN 1):=by rw [hws];exact HB1.out.trans ((bw_d' HBB.out 1).mono (by omega))
   go_wp2_with fail
   go_region_held3 (fun w'=>w'.cell? ⟨s,0,none⟩=some (.int .u8 (m.k:Int))/\w'.cell? ⟨s,1,none⟩=some (.int .u64 (m.n0:Int))/\w'.cell? ⟨s,2,none⟩=some (.int .u64 (m.n1:Int))/\w'.cell? ⟨s,3,none⟩=some (.int .u64 (m.n2:Int))/\w'.cell? ⟨s,4,none⟩=some (.int .u64 (m.n3:Int))/\w'.cell? ⟨s,5,none⟩=some (.int .u64 (m.n4:Int))/\w'.cell? ⟨s,6,none⟩=some (.int .u64 (m.n5:Int))/\w'.cell? ⟨s,7,none⟩=some (.string m.s0)/\w'.cell? ⟨s,8,none⟩=some (.string m.s1)/\w'.cell? ⟨s,9,none⟩=some (.slice m.A len m.c)/\w'.cell? ⟨b,off+j * 3,none⟩=some (.int .i64 (nu:Int))/\w'.cell? ⟨b,off+j * 3+1,none⟩=some (.int .i64 (ty:Int))/\w'.cell? ⟨b,off+j * 3+2,none⟩=some (.int .i64 (sl:Int))) (first | exact HC2.out | exact HC.out | go_keep) (first | (go_at_call 39;refine (HW.out _ hWd).mono ?_;rintro e w2 ⟨rfl,hb2⟩;have HC2:=hid (held13 (w:=wr.drewN 1) hb2 HC.out)))
   have hbw2:=bw_t (bw_d (Below.refl _ wr) 1) hb2
   have hB2:=HBB.out.trans (hbw2.mono HBB.out.size)
   have HB2:=hid hB2
   obtain ⟨y0,y1,y2,y3,y4,y5,y6,y7,y8,y9,z0,z1,z2⟩:=HC2.out
   obtain ⟨g0,g1,f0,f1⟩:=HCL.out w2 hB2
   clear hb2 hbw2 hB2 HC HC2 hWd t0 t1 t2 c0 c1 c2 c3 c4 c5 c6 c7 c8 c9
   by_cases hwe:we=0
   ·have h2:=HAT.out
    rw [if_pos hwe] at h2
    subst hwe
    have HY:=hid h2
    clear h2
    go_wp2_with fail
    exact ⟨⟨j+1,by omega,by go_num,HY.out,HB2.out⟩,by simp [intOf] <;> omega⟩
   ·have hwb:(we != 0)=true:=by simpa using hwe
    have h2:=HAT.out
    rw [if_neg hwe] at h2
    have h3:=HR.out
    rw [h2,if_pos hwe] at h3
    have HY:=hid h3
    clear h2 h3 hwe
    go_wp2_with fail
    obtain ⟨W',hW',hbk,hfl⟩:=HEND.out w2 we (nu:Int) HB2.out HY.out
    rw [<-hW']
    have r0:=hbk.cell 0
    have r1:=hbk.cell 1
    simp only [gA,gB,gC] at r0 r1
    clear hW'
    refine bodyPost_ret (v:=.agg #[.int .i64 we,.int .i64 (nu:Int)]) (by simp [results,Tryz.results25,go_sem,r0,r1]) rfl ?_
    rw [<-HTT.out]
    exact hfl
  ·obtain rfl:j=nL:=by omega
   rw [chkL_end (by have:=HNL.out;omega)] at hch
   have h3:=HR.out
   rw [hch] at h3
   have h4:R=if sb then ((0:Int),(0:Int)) else (20,0):=h3
   have HY:=hid h4
   have HBR:=hid hB
   have HC:=hid (And.intro c0 (And.intro c1 (And.intro c2 (And.intro c3 (And.intro c4 (And.intro c5 (And.intro c6 (And.intro c7 (And.intro c8 c9)))))))))
   clear h3 h4 hB hch hk
   go_wp2_with fail
   go_region_held3 (fun w'=>w'.cell? ⟨s,0,none⟩=some (.int .u8 (m.k:Int))/\w'.cell? ⟨s,1,none⟩=some (.int .u64 (m.n0:Int))/\w'.cell? ⟨s,2,none⟩=some (.int .u64 (m.n1:Int))/\w'.cell? ⟨s,3,none⟩=some (.int .u64 (m.n2:Int))/\w'.cell? ⟨s,4,none⟩=some (.int .u64 (m.n3:Int))/\w'.cell? ⟨s,5,none⟩=some (.int .u64 (m.n4:Int))/\w'.cell? ⟨s,6,none⟩=some (.int .u64 (m.n5:Int))/\w'.cell? ⟨s,7,none⟩=some (.string m.s0)/\w'.cell? ⟨s,8,none⟩=some (.string m.s1)/\w'.cell? ⟨s,9,none⟩=some (.slice m.A len m.c)) (first | exact HC3.out | exact HC2.out | exact HC.out | go_keep) (first | (go_at_call 40;refine (HKP.out _).mono ?_;rintro e w2 ⟨rfl,hb2⟩;have HC2:=hid (heldm (w:=wr.drewN 1) hb2 HC.out);have hW2:Below w.heap.size w w2:=(by rw [hws];exact HB1.out.trans ((HBR.out.trans ((bw_t (bw_d (Below.refl _ wr) 1) hb2).mono HBR.out.size)).mono (by omega)))) | (go_at_call 8;refine (HSM.out _ hW2).mono ?_;rintro e w3 ⟨rfl,hb3⟩;have HC3:=hid (heldm hb3 HC2.out)))
   have hB3:=HBR.out.trans ((bw_t (bw_t (bw_d (Below.refl _ wr) 1) hb2) hb3).mono HBR.out.size)
   have HB3:=hid hB3
   obtain ⟨g0,g1,f0,f1⟩:=HCL.out w3 hB3
   clear hB3 hb3 hb2 hW2 HC2 HC3
   cases sb with
   | true =>
    go_wp2_with fail
    obtain ⟨W',hW',hbk,hfl⟩:=HEND.out w3 0 0 HB3.out HY.out
    rw [<-hW']
    have r0:=hbk.cell 0
    have r1:=hbk.cell 1
    simp only [gA,gB,gC] at r0 r1
    clear hW'
    refine bodyPost_ret (v:=.agg #[.int .i64 0,.int .i64 0]) (by simp [results,Tryz.results25,go_sem,r0,r1]) rfl ?_
    rw [<-HTT.out]
    exact hfl
   | false =>
    go_wp2_with fail
    obtain ⟨W',hW',hbk,hfl⟩:=HEND.out w3 20 0 HB3.out HY.out
    rw [<-hW']
    have r0:=hbk.cell 0
    have r1:=hbk.cell 1
    simp only [gA,gB,gC] at r0 r1
    clear hW'
    refine bodyPost_ret (v:=.agg #[.int .i64 20,.int .i64 0]) (by simp [results,Tryz.results25,go_sem,r0,r1]) rfl ?_
    rw [<-HTT.out]
    exact hfl
end Go.Proofs.YtpmfdlghckfgiaaGreat
