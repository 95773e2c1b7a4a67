/- What a message's bytes say: plain mathema · The document's Bytes. · encode.Bytes and · How long a message's bytes are at most, a · Layer 11: what a field sets of a message; · Reading a message: mathematics. · A message of which one field has nothing: · A message behind the parts of another one · To which of a message's fields one of byt · The document's Belongs. · lenient.each as an iterator. · A message that is read may be: mathematics. -/
import Derived.Test.YtpmfdlghckfgiaaGreatEn3
import Derived.Test.YtpmfdlghckfgiaaGreatSk2
import Derived.Test.YtpmfdlghckfgiaaGreatG14
import Derived.Test.YtpmfdlghckfgiaaGreatEncRef
import Derived.Test.YtpmfdlghckfgiaaGreatV4
import Derived.Test.YtpmfdlghckfgiaaGreatG12
set_option linter.unusedVariables false
set_option maxRecDepth 100000
set_option maxHeartbeats 16000000
namespace Go.Proofs.YtpmfdlghckfgiaaGreat
open Go.RowKit
def ptF (x:Int × Int × Nat × List UInt8):FV:=⟨x.1,x.2.1,x.2.2.1,⟨none,0,x.2.2.2⟩,0⟩
theorem row_num {r:SRow} (h:r ∈ ROWS):1<=r.num/\r.num<=7/\1<=r.typ/\r.typ<=10:=by have:=row_ok h;omega
structure PtOk (r:SRow) (x:Int × Int × Nat × List UInt8):Prop where
 num:x.1=(r.num:Int)
 w:x.2.1=(wireN (r.typ:Nat):Int)
 n:x.2.2.1<=18446744073709551615
 len:x.2.2.2.length<=8000
theorem wireN_cases (t:Int):wireN t=0\/wireN t=1\/wireN t=2\/wireN t=5:=by
 unfold wireN
 split
 ·exact .inr (.inr (.inr rfl))
 split
 ·exact .inr (.inl rfl)
 split
 ·exact .inr (.inr (.inl rfl))
 ·exact .inl rfl
theorem PtOk.put {r:SRow} {x:Int × Int × Nat × List UInt8} (hr:r ∈ ROWS) (h:PtOk r x):pErrF (ptF x)=0/\(ptF x).n<=18446744073709551615/\0<=(ptF x).w/\(ptF x).w<=255:=by
 have hk:=row_num hr
 have hw:=wireN_cases (r.typ:Nat)
 have hw2:(ptF x).w=(wireN (r.typ:Nat):Int):=h.w
 refine ⟨?_,h.n,by rw [hw2];omega,by rw [hw2];omega⟩
 show pErr x.1 x.2.1 x.2.2.2=0
 have hwb:wireB x.2.1=true:=by rw [h.w];rcases hw with e | e | e | e <;> rw [e] <;> rfl
 unfold pErr
 have h1:=h.num
 have h2:=h.len
 rw [mk_ok (by omega) (by omega) hwb,if_neg (by simp),if_neg (by omega)]
theorem enc_alike {a b:MV} {L:List SRow} (h:sameB a b=true):encB a L=encB b L:=by
 obtain ⟨h1,⟨a0,a1,a2,a3,a4,a5⟩,⟨b0,b1⟩,hl⟩:=(sameB_iff a b).1 h
 obtain ⟨k,n0,n1,n2,n3,n4,n5,s0,s1,A,c,l⟩:=a
 obtain ⟨k',m0,m1,m2,m3,m4,m5,t0,t1,A',c',l'⟩:=b
 simp only at h1 a0 a1 a2 a3 a4 a5 b0 b1 hl
 subst h1 a0 a1 a2 a3 a4 a5 b0 b1 hl
 have e:=chkV_ac ⟨k,n0,n1,n2,n3,n4,n5,s0,s1,A',c',l⟩ A c L
 unfold encB
 rw [<-e]
 rfl
end Go.Proofs.YtpmfdlghckfgiaaGreat
set_option linter.unusedVariables false
set_option maxRecDepth 100000
set_option maxHeartbeats 16000000
namespace Go.Proofs.YtpmfdlghckfgiaaGreat
open Go.RowKit
theorem ofL_le7 (k:Nat) (v:Int):(ofL (k:Int) v).length<=7:=by
 by_cases hv:3 < v
 ·rw [ofL_nil _ _ (kn_out v hv)];simp
 have hk:(k=0\/10 < k)\/k=1\/k=2\/k=3\/k=4\/k=5\/k=6\/k=7\/k=8\/k=9\/k=10:=by omega
 rcases hk with h | rfl | rfl | rfl | rfl | rfl | rfl | rfl | rfl | rfl | rfl
 ·rw [ofL_kind k v h];simp
 all_goals
  rw [ofL_in _ _ hv]
  refine Nat.le_trans (List.length_filter_le _ _) ?_
  decide +kernel
theorem own_ne_blk {w:World} {B e sz n q:Nat} {v:Value} {xs:List Value} {t:TypeId} {cs:Array Value} (h:w.ownsRow B e sz v n xs) (hb:Blk w q t cs) (ht:t ≠ e) (g:Nat) (hg:v.ownBlock=some g) (hq:g=q):False:=by
 subst hq
 rcases h.2 with ⟨rfl,-⟩ | ⟨g1,cap,cur,rfl,-,hg1,-⟩
 ·cases hg
 ·have e1:g1=g:=by simpa [Value.ownBlock] using hg
  subst e1
  have h2:=hg1.symm.trans hb
  injection h2 with h2
  injection h2 with _ h3
  exact ht h3.symm
theorem r10bytes_any (M:MV) (v:Int) (w:World) (hok:MvOk w M) (hsm:MvSm M) (hv1 : -9223372036854775808<=v) (hv2:v<=9223372036854775807) :
  Calls Tryz.prog 16 #[mvV M,.int .i64 v] w (BytesR w M (ofL (M.k:Int) v)):=by
 have hchk:=fun W (hW:Below w.heap.size w W)=>rcheck9_any M v W (hok.below hW) hv1 hv2
 have hof:=fun W=>r8of_any (M.k:Int) v W (by omega) (by have:=hok.k;omega) hv1 hv2
 have hfd:=fun (nu ty sl:Int) W (hW:Below w.heap.size w W) h1 h2=>r10field_any M nu ty sl W (hok.below hW) hsm h1 h2
 have hfl:∀ r,(fldR M r).length<=810000:=fun r=>fld_len hok.n hsm
 have hq40:=ofL_le7 M.k v
 have hmem:=fun r (h:r ∈ ofL (M.k:Int) v)=>row_ok (ofL_mem _ _ h)
 have hz0:=fun h=>chkV_zero (m:=M) (L:=ofL (M.k:Int) v) h
 have hBR:BytesR w M (ofL (M.k:Int) v)=fun e W'=>∃ vv,e=.returned (.tuple #[vv,.agg #[.int .i64 (chkV M (ofL (M.k:Int) v)).1,.int .i64 (chkV M (ofL (M.k:Int) v)).2]])/\W'.ownsRow w.heap.size 5 1 vv (encB M (ofL (M.k:Int) v)).length ((encB M (ofL (M.k:Int) v)).map bv)/\Below w.heap.size w W':=rfl
 have hE:encB M (ofL (M.k:Int) v)=if (chkV M (ofL (M.k:Int) v)).1=0 then (ofL (M.k:Int) v).flatMap (fldR M) else []:=rfl
 unfold OfR at hof
 generalize BytesR w M (ofL (M.k:Int) v)=R at *
 generalize encB M (ofL (M.k:Int) v)=eb at *
 generalize ofL (M.k:Int) v=L at *
 have hz1:(chkV M L).1=0->(chkV M L).2=0:=fun h=>by rw [(hz0 h).1]
 unfold FltOf at hchk
 generalize (chkV M L).1=E1 at *
 generalize (chkV M L).2=E2 at *
 obtain ⟨nL,hnL⟩:∃ n,L.length=n:=⟨_,rfl⟩
 rw [hnL] at hof hq40
 have HNL:=hid hnL
 have HMEM:=hid hmem
 have HCHK:=hid hchk
 have HOF:=hid hof
 have HFD:=hid hfd
 have HFL:=hid hfl
 have HZ1:=hid hz1
 have HBR:=hid hBR
 have HE:=hid hE
 clear hchk hof hfd hfl hz0 hz1 hBR hE hok hmem hnL
 have hmv:mvV M=.agg #[.int .u8 (M.k:Int),.int .u64 (M.n0:Int),.int .u64 (M.n1:Int),.int .u64 (M.n2:Int),.int .u64 (M.n3:Int),.int .u64 (M.n4:Int),.int .u64 (M.n5:Int),.string M.s0,.string M.s1,.slice M.A M.l.length M.c]:=rfl
 rw [hmv] at HCHK HFD ⊢
 clear hmv
 generalize M.l.length=len at *
 obtain ⟨s,hsz⟩:∃ s,w.heap.size=s:=⟨_,rfl⟩
 rw [hsz] at HCHK HFD HBR
 have hmx:Tryz.prog.follows .mixedOrders=true:=by kernel_rfl
 have hb0:=bw_a (bw_a (Below.refl w.heap.size w) (.cells #[.int .u8 (M.k:Int),.int .u64 (M.n0:Int),.int .u64 (M.n1:Int),.int .u64 (M.n2:Int),.int .u64 (M.n3:Int),.int .u64 (M.n4:Int),.int .u64 (M.n5:Int),.string M.s0,.string M.s1,.slice M.A len M.c] 29)) (.cells #[.int .i64 0,.int .i64 0] 32)
 have hk0:=(Blk.new w 29 #[.int .u8 (M.k:Int),.int .u64 (M.n0:Int),.int .u64 (M.n1:Int),.int .u64 (M.n2:Int),.int .u64 (M.n3:Int),.int .u64 (M.n4:Int),.int .u64 (M.n5:Int),.string M.s0,.string M.s1,.slice M.A len M.c]).alloc (.cells #[.int .i64 0,.int .i64 0] 32)
 have hk1:=Blk.new (w.alloc (.cells #[.int .u8 (M.k:Int),.int .u64 (M.n0:Int),.int .u64 (M.n1:Int),.int .u64 (M.n2:Int),.int .u64 (M.n3:Int),.int .u64 (M.n4:Int),.int .u64 (M.n5:Int),.string M.s0,.string M.s1,.slice M.A len M.c] 29)) 32 #[.int .i64 0,.int .i64 0]
 rw [World.size_alloc] at hk1
 rw [hsz] at hb0 hk0 hk1
 have hz2:((w.alloc (.cells #[.int .u8 (M.k:Int),.int .u64 (M.n0:Int),.int .u64 (M.n1:Int),.int .u64 (M.n2:Int),.int .u64 (M.n3:Int),.int .u64 (M.n4:Int),.int .u64 (M.n5:Int),.string M.s0,.string M.s1,.slice M.A len M.c] 29)).alloc (.cells #[.int .i64 0,.int .i64 0] 32)).heap.size=s+2:=by simp [hsz]
 have HK0:=hid hk0
 have HK1:=hid hk1
 have HB0:=hid hb0
 have HZ2:=hid hz2
 clear hk0 hk1 hb0 hz2
 go_enter Tryz.func16,Tryz.ntmps16
 go_wp2_with fail
 refine (HCHK.out _ HB0.out).mono ?_
 rintro e w1 ⟨rfl,hb1⟩
 have hk0:=HK0.out.below hb1 (by have:=HZ2.out;omega)
 have hk1:=HK1.out.below hb1 (by have:=HZ2.out;omega)
 have hB1:=HB0.out.trans (hb1.mono (by have:=HZ2.out;omega))
 have hw1:s+2<=w1.heap.size:=by have:=hb1.size;have:=HZ2.out;omega
 have hl0:s < w1.heap.size:=by omega
 have hl1:s < w1.heap.size+1:=by omega
 clear hb1 HK0 HK1 HB0 HZ2
 have c0:=hk0.cell 0
 have c1:=hk0.cell 1
 have c2:=hk0.cell 2
 have c3:=hk0.cell 3
 have c4:=hk0.cell 4
 have c5:=hk0.cell 5
 have c6:=hk0.cell 6
 have c7:=hk0.cell 7
 have c8:=hk0.cell 8
 have c9:=hk0.cell 9
 simp only [gA,gB,gC] at c0 c1 c2 c3 c4 c5 c6 c7 c8 c9
 have d0:=hk1.cell 0
 have d1:=hk1.cell 1
 have e0:=hk1.frozen 0
 have e1:=hk1.frozen 1
 simp only [gA,gB,gC] at d0 d1
 have HK0:=hid hk0
 have HK1:=hid hk1
 have HB1:=hid hB1
 clear hk0 hk1 hB1
 by_cases he:E1=0
 ·have h2:=HZ1.out he
  have h3:=HE.out
  rw [if_pos he] at h3
  subst he
  subst h2
  have HE2:=hid h3
  clear h3 HZ1 HE
  go_wp2_with fail
  refine (HOF.out _).mono ?_
  rintro e w2 ⟨A,c,rfl,hs2,hb2⟩
  have hk0:=(HK0.out.alloc (.cells #[.int .i64 0,.int .i64 0] 32)).below hb2 (by rw [World.size_alloc];omega)
  have hk1:=(HK1.out.alloc (.cells #[.int .i64 0,.int .i64 0] 32)).below hb2 (by rw [World.size_alloc];omega)
  have hB2:=HB1.out.trans (((bw_a (Below.refl w1.heap.size w1) (.cells #[.int .i64 0,.int .i64 0] 32)).trans (hb2.mono (by rw [World.size_alloc];omega))).mono (show s<=w1.heap.size by omega))
  have hw2:s+2<=w2.heap.size:=by have:=hb2.size;rw [World.size_alloc] at this;omega
  have HK02:=hid hk0
  have HK12:=hid hk1
  have HB2:=hid hB2
  have HS2:=hid hs2
  have hcap:=hs2.cap
  have hcs:=hs2.small
  clear hb2 hs2 hk0 hk1 hB2 HK0 HK1 HB1 c0 c1 c2 c3 c4 c5 c6 c7 c8 c9 d0 d1 e0 e1
  go_wp2_with fail
  go_loopw [7,9] (fun ov i wr=>∃ (j bl:Nat) (bs:List UInt8) (Ao:Option Addr) (co:Nat),j<=nL/\i=.int .i64 (j:Int)/\ov=.slice Ao bl co/\bs=(L.take j).flatMap (fldR M)/\bs.length=bl/\wr.ownsRow s 5 1 (.slice Ao bl co) bl (bs.map bv)/\Below w2.heap.size w2 wr) (fun _ i _=>nL - (intOf i).toNat)
  case atStart=>exact ⟨0,0,[],none,0,by omega,rfl,rfl,rfl,rfl,World.ownsRow_nil _ _ _ _,Below.refl _ _⟩
  case round =>
   obtain ⟨j,bl,bs,Ao,co,hj,rfl,rfl,hbs,hbl,ho,hB⟩:=hrel
   have hk0:=HK02.out.below hB (by omega)
   have c0:=hk0.cell 0
   have c1:=hk0.cell 1
   have c2:=hk0.cell 2
   have c3:=hk0.cell 3
   have c4:=hk0.cell 4
   have c5:=hk0.cell 5
   have c6:=hk0.cell 6
   have c7:=hk0.cell 7
   have c8:=hk0.cell 8
   have c9:=hk0.cell 9
   simp only [gA,gB,gC] at c0 c1 c2 c3 c4 c5 c6 c7 c8 c9
   have hls:=hk0.lt
   by_cases hlt:j < nL
   ·have hjl:j < L.length:=by have:=HNL.out;omega
    have hn0':(L.flatMap specC)[j * 3+0]? = _:=flatMap_get specC 3 L j 0 hjl (fun _ _=>rfl) (by omega)
    have hn1':(L.flatMap specC)[j * 3+1]? = _:=flatMap_get specC 3 L j 1 hjl (fun _ _=>rfl) (by omega)
    have hn2':(L.flatMap specC)[j * 3+2]? = _:=flatMap_get specC 3 L j 2 hjl (fun _ _=>rfl) (by omega)
    obtain ⟨b,off,hA,hbw,t0⟩:=HS2.out.rd _ _ hn0'
    subst hA
    have t1:=HS2.out.rd.addr _ _ hn1'
    have t2:=HS2.out.rd.addr _ _ hn2'
    rw [addr_add] at t1 t2
    simp only [Nat.add_zero,<-Nat.add_assoc] at t0 t1 t2
    have t0:=(hB.cell (p:=⟨b,off+j * 3,none⟩) hbw).trans t0
    have t1:=(hB.cell (p:=⟨b,off+j * 3+1,none⟩) hbw).trans t1
    have t2:=(hB.cell (p:=⟨b,off+j * 3+2,none⟩) hbw).trans t2
    have hji:(j:Int) < (nL:Int):=by omega
    have hj0:(0:Int)<=(j:Int):=by omega
    have htk:=take_fm M L j L[j] (List.getElem?_eq_getElem hjl)
    rw [<-hbs] at htk
    have hro:=HMEM.out _ (List.getElem_mem hjl)
    have hbl2:bl<=810000 * 7:=by
     have h1:=fm_len (fldR M) 810000 (L.take j) (fun x _=>HFL.out x)
     have h2:(L.take j).length<=7:=by rw [List.length_take];have:=HNL.out;omega
     have h3:810000 * (L.take j).length<=810000 * 7:=Nat.mul_le_mul_left _ h2
     rw [<-hbs,hbl] at h1
     omega
    have hfl:=HFL.out L[j]
    have hfd:=fun W hW=>HFD.out (L[j].num:Nat) (L[j].typ:Nat) (L[j].slot:Nat) W hW (by omega) (by omega)
    have hfe:fldB M (L[j].num:Nat) (L[j].typ:Nat) (L[j].slot:Nat)=fldR M L[j]:=rfl
    rw [hfe] at hfd
    clear hn0' hn1' hn2' hfe hro
    generalize L[j]=r at *
    obtain ⟨rk,si,nu,ty,sl⟩:=r
    simp only at t0 t1 t2 hfd
    generalize fldR M ⟨rk,si,nu,ty,sl⟩=fb at *
    obtain ⟨fl,hfle⟩:∃ fl,fb.length=fl:=⟨_,rfl⟩
    rw [hfle] at hfl hfd
    have hC:=(And.intro c0 (And.intro c1 (And.intro c2 (And.intro c3 (And.intro c4 (And.intro c5 (And.intro c6 (And.intro c7 (And.intro c8 (And.intro c9 (And.intro t0 (And.intro t1 t2))))))))))))
    have HC:=hid hC
    have HFDJ:=hid hfd
    have HTK:=hid htk
    have HFLE:=hid hfle
    have HBL:=hid hbl
    have HBW:=hid hB
    have HO:=hid ho
    have HBS:=hid hbs
    have HSB:=hid (HB2.out.trans (HBW.out.mono (show s<=w2.heap.size by omega)))
    clear hfd htk hfle hbl hB ho hbs hk0 hC
    go_wp2_with fail
    go_region_held3 (fun w'=>w'.cell? ⟨s,0,none⟩=some (.int .u8 (M.k:Int))/\w'.cell? ⟨s,1,none⟩=some (.int .u64 (M.n0:Int))/\w'.cell? ⟨s,2,none⟩=some (.int .u64 (M.n1:Int))/\w'.cell? ⟨s,3,none⟩=some (.int .u64 (M.n2:Int))/\w'.cell? ⟨s,4,none⟩=some (.int .u64 (M.n3:Int))/\w'.cell? ⟨s,5,none⟩=some (.int .u64 (M.n4:Int))/\w'.cell? ⟨s,6,none⟩=some (.int .u64 (M.n5:Int))/\w'.cell? ⟨s,7,none⟩=some (.string M.s0)/\w'.cell? ⟨s,8,none⟩=some (.string M.s1)/\w'.cell? ⟨s,9,none⟩=some (.slice M.A len M.c)/\w'.cell? ⟨b,off+j * 3,none⟩=some (.int .i64 (nu:Int))/\w'.cell? ⟨b,off+j * 3+1,none⟩=some (.int .i64 (ty:Int))/\w'.cell? ⟨b,off+j * 3+2,none⟩=some (.int .i64 (sl:Int))) (first | exact HC3.out | exact HC2.out | exact HC.out | go_keep) (first | (go_at_call 27;refine (HFDJ.out _ (bw_d' HSB.out 1)).mono ?_;rintro e w3 ⟨A3,cq3,rfl,hs3,hb3⟩;have HC2:=hid (held13 (w:=wr.drewN 1) hb3 HC.out);have HJO:=hid (rjoin2_own bs fb bl fl Ao A3 co cq3 w3 HBL.out HFLE.out (by omega) ((Sl.of_own' HO.out).below (bw_t (bw_d (Below.refl _ wr) 1) hb3)) hs3)) | (go_at_call 26;refine HJO.out.mono ?_;rintro e w4 ⟨v4,rfl,ho4,hb4⟩;have HC3:=hid (held13 hb4 HC2.out)))
    have hbw4:=(bw_t (bw_t (bw_d (Below.refl _ wr) 1) hb3) hb4)
    obtain ⟨A4,cq4,rfl⟩:=row_slice' ho4
    have HO4:=hid (own_mono ho4 (show s<=w3.heap.size by have:=HBW.out.size;have:=hb3.size;simp at this;omega))
    have HB4:=hid (HBW.out.trans (hbw4.mono HBW.out.size))
    clear hb3 hb4 hbw4 ho4 hs3 HC HC2 HC3 HJO c0 c1 c2 c3 c4 c5 c6 c7 c8 c9 t0 t1 t2
    go_wp2_with fail
    go_roundw
    case rel=>exact ⟨j+1,bl+fl,bs++fb,A4,_,by omega,by go_num,rfl,HTK.out.symm,by rw [List.length_append,HBL.out,HFLE.out],HO4.out,HB4.out⟩
    case measure=>simp [intOf];omega
   ·obtain rfl:j=nL:=by omega
    rw [List.take_of_length_le (by have:=HNL.out;omega),<-HE2.out] at hbs
    subst hbs
    have hk1:=HK12.out.below hB (by omega)
    have d0:=hk1.cell 0
    have d1:=hk1.cell 1
    have e0:=hk1.frozen 0
    have e1:=hk1.frozen 1
    simp only [gA,gB,gC] at d0 d1
    have h9:=fstore hk1 (.int .i64 0) (.int .i64 0)
    have hbs':=HB2.out.trans (hB.mono (show s<=w2.heap.size by omega))
    have hb9:=hbs'.trans (h9.2.below (B:=s) (fun k hk=>by omega) (by have:=hbs'.size;omega))
    have ho9:=own_chgS ho h9.2 (fun g hg e=>own_ne_blk ho hk1 (by decide) g hg e)
    have hk9:=h9.1
    have HO9:=hid ho9
    have HB9:=hid hb9
    have HK9:=hid hk9
    have HBL:=hid hbl
    clear h9 hbs' ho hk1 hb9 ho9 hk9 hbl hB hk0 c0 c1 c2 c3 c4 c5 c6 c7 c8 c9
    go_wp2_with fail
    have r0:=HK9.out.cell 0
    have r1:=HK9.out.cell 1
    simp only [gA,gB,gC] at r0 r1
    refine bodyPost_ret (v:=.tuple #[.slice Ao bl co,.agg #[.int .i64 0,.int .i64 0]]) (by simp [results,Tryz.results16,go_sem,r0,r1]) rfl ?_
    rw [HBR.out]
    exact ⟨_,rfl,by rw [HBL.out];exact HO9.out,HB9.out⟩
 ·have heb:(E1 != 0)=true:=by simpa using he
  have h3:=HE.out
  rw [if_neg he] at h3
  subst h3
  clear he HE HZ1
  go_wp2_with fail
  have hkn:=Blk.new w1 32 #[.int .i64 E1,.int .i64 E2]
  have y0:=hkn.cell 0
  have y1:=hkn.cell 1
  simp only [gA,gB,gC] at y0 y1
  have hka:=HK1.out.alloc (.cells #[.int .i64 E1,.int .i64 E2] 32)
  have hba:=HB1.out.trans ((bw_a (Below.refl w1.heap.size w1) (.cells #[.int .i64 E1,.int .i64 E2] 32)).mono (show s<=w1.heap.size by omega))
  have z0:=hka.cell 0
  have z1:=hka.cell 1
  have u0:=hka.frozen 0
  have u1:=hka.frozen 1
  simp only [gA,gB,gC] at z0 z1
  have HKA:=hid hka
  have HBA:=hid hba
  clear hkn hka hba HK0 HK1 HB1 c0 c1 c2 c3 c4 c5 c6 c7 c8 c9 d0 d1 e0 e1
  generalize w1.alloc (.cells #[.int .i64 E1,.int .i64 E2] 32)=w2 at *
  have hne:¬ (w1.heap.size=s+1):=by omega
  have hne2:¬ (s+1=w1.heap.size):=by omega
  go_region_held3 (fun w'=>w'.cell? ⟨w1.heap.size,0,none⟩=some (.int .i64 E1)/\w'.cell? ⟨w1.heap.size,1,none⟩=some (.int .i64 E2)) (first | exact ⟨y0,y1⟩ | go_keep) (fail)
  have h9:=fstore HKA.out (.int .i64 E1) (.int .i64 E2)
  have hk9:=h9.1
  have hb9:=HBA.out.trans (h9.2.below (B:=s) (fun k hk=>by omega) (by have:=HKA.out.lt;omega))
  clear h9
  go_wp2_with fail
  generalize World.setCell (World.setCell w2 _ _) _ _=W9 at *
  have r0:=hk9.cell 0
  have r1:=hk9.cell 1
  simp only [gA,gB,gC] at r0 r1
  have r0':W9.drew.cell? ⟨s+1,0,none⟩=some (.int .i64 E1):=r0
  have r1':W9.drew.cell? ⟨s+1,1,none⟩=some (.int .i64 E2):=r1
  refine bodyPost_ret (v:=.tuple #[.slice none 0 0,.agg #[.int .i64 E1,.int .i64 E2]]) (by simp [results,Tryz.results16,go_sem,r0',r1']) rfl ?_
  rw [HBR.out]
  exact ⟨_,rfl,World.ownsRow_nil _ _ _ _,⟨hb9.os,hb9.tape,hb9.output,hb9.size,hb9.block⟩⟩
end Go.Proofs.YtpmfdlghckfgiaaGreat
namespace Go.Proofs.YtpmfdlghckfgiaaGreat
open Go.RowKit
theorem ebytes_any (M:MV) (v:Int) (w:World) (hok:MvOk w M) (hsm:MvSm M) (hv1 : -9223372036854775808<=v) (hv2:v<=9223372036854775807) :
  Calls Tryz.prog 20 #[mvV M,.int .i64 v] w (BytesR w M (ofL (M.k:Int) v)):=(callsIn_wide (n:=8)).1 (ebytes_in 8 (by omega) M v w hok hsm hv1 hv2)
theorem bytesR_sl {w w':World} {M:MV} {L:List SRow} {e:Ending} (h:BytesR w M L e w'):∃ A c,e=.returned (.tuple #[.slice A (encB M L).length c,.agg #[.int .i64 (chkV M L).1,.int .i64 (chkV M L).2]])/\Sl w' A c ((encB M L).map bv)/\w'.ownsRow w.heap.size 5 1 (.slice A (encB M L).length c) (encB M L).length ((encB M L).map bv)/\Below w.heap.size w w':=by
 obtain ⟨vv,rfl,ho,hb⟩:=h
 obtain ⟨A,c,rfl⟩:=row_slice' ho
 exact ⟨A,c,rfl,Sl.of_own' ho,ho,hb⟩
def MH:MV:=⟨1,1,3,0,0,0,0,⟨#[]⟩,⟨#[]⟩,none,0,[]⟩
theorem mh_sm:MvSm MH:=⟨by decide,fun i=>by unfold MV.text;split <;> decide,fun s hs=>by simp [MH] at hs⟩
theorem mh_o:ofL ((1:Nat):Int) 1=[⟨1,1,1,1,0⟩,⟨1,1,2,1,1⟩,⟨1,1,3,7,0⟩]:=by decide +kernel
theorem mh_c:chkV MH (ofL (MH.k:Int) 1)=(0,0):=by
 show chkV MH (ofL ((1:Nat):Int) 1)=_
 rw [mh_o];decide +kernel
theorem put_small (n:Nat) (h:n < 128):putN n=[b8 n]:=by
 unfold putN
 rw [sevs,dif_pos h]
 simp [sevB,b8]
theorem mh_f (num i:Int) (k:Nat) (hd:dflB MH 1 i=false) (hk:MH.num i=k) (hk1:k < 128) (h1:1<=num) (h2:num<=15):fldB MH num 1 i=[b8 (8 * num).toNat,b8 k]:=by
 rw [fldB_in hd mh_sm h1 (by omega)]
 have hw:partW MH num 1 i=[(num,0,k,[])]:=by
  unfold partW
  rw [if_neg (by omega),if_neg (by omega),if_neg (by omega),hk];rfl
 rw [hw,List.flatMap_cons,List.flatMap_nil,List.append_nil]
 show pB num 0 k []=_
 unfold pB pTail
 rw [mk_ok h1 (by omega) rfl]
 simp only [Int.add_zero]
 rw [put_small _ (by omega),if_pos trivial,put_small _ hk1]
 rfl
theorem mh_b:encB MH (ofL (MH.k:Int) 1)=[8,1,16,3]:=by
 unfold encB
 rw [mh_c]
 show (if (0:Int)=0 then (ofL ((1:Nat):Int) 1).flatMap (fldR MH) else [])=_
 rw [if_pos rfl,mh_o]
 have f1:fldR MH ⟨1,1,1,1,0⟩=[8,1]:=by
  show fldB MH 1 1 0=_
  rw [mh_f 1 0 1 (by decide +kernel) rfl (by omega) (by omega) (by omega)];decide
 have f2:fldR MH ⟨1,1,2,1,1⟩=[16,3]:=by
  show fldB MH 2 1 1=_
  rw [mh_f 2 1 3 (by decide +kernel) rfl (by omega) (by omega) (by omega)];decide
 have f3:fldR MH ⟨1,1,3,7,0⟩=[]:=by
  show fldB MH 3 7 0=_
  unfold fldB
  rw [if_pos (by decide +kernel)]
 rw [List.flatMap_cons,List.flatMap_cons,List.flatMap_cons,List.flatMap_nil,f1,f2,f3]
 rfl
end Go.Proofs.YtpmfdlghckfgiaaGreat
namespace Go.Proofs.YtpmfdlghckfgiaaGreat
open Go.RowKit
end Go.Proofs.YtpmfdlghckfgiaaGreat
namespace Go.Proofs.YtpmfdlghckfgiaaGreat
open Go.RowKit
end Go.Proofs.YtpmfdlghckfgiaaGreat
set_option linter.unusedVariables false
set_option maxRecDepth 100000
set_option maxHeartbeats 16000000
namespace Go.Proofs.YtpmfdlghckfgiaaGreat
open Go.RowKit
theorem chk_size {s:ByteArray} {most:Int} (h:chk s most=0):(s.data.toList.length:Int)<=most:=by
 unfold chk checkI at h
 split at h
 ·cases h
 ·omega
theorem txtE_each {most:Int}:∀ (l:List ByteArray),txtE most l=0->∀ s ∈ l,chk s most=0
 | [],_,s,hs=>by simp at hs
 | x :: l,h,s,hs=>by
  rw [txtE] at h
  by_cases c:chk x most=0
  ·rw [if_pos c] at h
   rcases List.mem_cons.1 hs with rfl | hs
   ·exact c
   ·exact txtE_each l h s hs
  ·rw [if_neg c] at h;exact absurd h c
theorem lstE_each {l:List ByteArray} (h:lstE l=0):l.length<=64/\∀ s ∈ l,chk s 64=0:=by
 unfold lstE at h
 split at h
 ·cases h
 ·exact ⟨by omega,txtE_each l h⟩
end Go.Proofs.YtpmfdlghckfgiaaGreat
namespace Go.Proofs.YtpmfdlghckfgiaaGreat
open Go.RowKit
end Go.Proofs.YtpmfdlghckfgiaaGreat
set_option linter.unusedVariables false
set_option maxRecDepth 100000
set_option maxHeartbeats 16000000
namespace Go.Proofs.YtpmfdlghckfgiaaGreat
open Go.RowKit
def zagU (n:Nat):Nat:=if n % 2=0 then n / 2 else 18446744073709551615 - n / 2
def numV (t:Int) (n:Nat):Nat:=if t=1 then n % 4294967296 else if t=4 then (if n=0 then 0 else 1) else if t=3 then zagU n else n
def MV.setN (m:MV) (i:Int) (x:Nat):MV:={ m with n0:=if i=0 then x else m.n0,n1:=if i=1 then x else m.n1,n2:=if i=2 then x else m.n2,n3:=if i=3 then x else m.n3,n4:=if i=4 then x else m.n4,n5:=if i=5 then x else m.n5 }
def MV.setS (m:MV) (i:Int) (s:ByteArray):MV:={ m with s0:=if i=0 then s else m.s0,s1:=if i=1 then s else m.s1 }
def ZM:MV:=⟨0,0,0,0,0,0,0,⟨#[]⟩,⟨#[]⟩,none,0,[]⟩
def plB (t i:Int):Bool:=decide ((1<=t/\t<=6)/\0<=i/\i < 6) || decide ((7<=t/\t<=9)/\0<=i/\i < 2) || decide (t=10)
def setE (m:MV) (t i:Int) (s:ByteArray):Int:=if plB t i=false then 7 else if t<=6 then 0 else if t<=9 then chk s (mostN t:Nat) else if 64<=m.l.length then 2 else chk s 64
def setM (m:MV) (t i:Int) (n:Nat) (s:ByteArray):MV:=if setE m t i s ≠ 0 then ZM else if t<=6 then m.setN i (numV t n) else if t<=9 then m.setS i s else { m with l:=m.l++[s] }
theorem placed_any (m:MV) (num t i:Int) (w:World):Calls Tryz.prog 70 #[mvV m,.agg #[.int .i64 num,.int .i64 t,.int .i64 i]] w fun e w'=>e=.returned (.bool (plB t i))/\Below w.heap.size w w':=by
 obtain ⟨b,hb⟩:∃ b,plB t i=b:=⟨_,rfl⟩
 rw [hb]
 obtain ⟨k,n0,n1,n2,n3,n4,n5,s0,s1,A,c,l⟩:=m
 unfold mvV mvA
 simp only
 generalize l.length=len
 have hbb:=bw_a (bw_a (Below.refl _ w) (.cells #[.int .u8 (k:Int),.int .u64 (n0:Int),.int .u64 (n1:Int),.int .u64 (n2:Int),.int .u64 (n3:Int),.int .u64 (n4:Int),.int .u64 (n5:Int),.string s0,.string s1,.slice A len c] 29)) (.cells #[.int .i64 num,.int .i64 t,.int .i64 i] 57)
 have HBB:=hid hbb
 clear hbb
 have hcase:(t=1\/t=2\/t=3\/t=4\/t=5\/t=6)\/(t=7\/t=8\/t=9)\/t=10\/(t < 1\/10 < t):=by omega
 rcases hcase with h | h | rfl | h
 ·have hv:b=decide (0<=i/\i < 6):=by
   rw [<-hb];unfold plB
   rw [decide_eq_false (p:=((7<=t/\t<=9)/\0<=i/\i < 2)) (by omega),decide_eq_false (p:=t=10) (by omega)]
   simp only [Bool.or_false]
   exact decide_eq_decide.2 (by omega)
  subst hv
  clear hb
  rcases h with rfl | rfl | rfl | rfl | rfl | rfl
  all_goals
   by_cases h1:0<=i
   ·by_cases h2:i < 6
    ·rw [decide_eq_true (show 0<=i/\i < 6 from ⟨h1,h2⟩)]
     go_enter Tryz.func70,Tryz.ntmps70
     go_wp2
     go_ret
     exact ⟨by first | rfl | exact ret_bool (by simp [h1,h2]),HBB.out⟩
    ·rw [decide_eq_false (show ¬ (0<=i/\i < 6) by omega)]
     go_enter Tryz.func70,Tryz.ntmps70
     go_wp2
     go_ret
     exact ⟨by first | rfl | exact ret_bool (by simp;omega),HBB.out⟩
   ·rw [decide_eq_false (show ¬ (0<=i/\i < 6) by omega)]
    go_enter Tryz.func70,Tryz.ntmps70
    go_wp2
    go_ret
    exact ⟨by first | rfl | exact ret_bool (by simp;omega),HBB.out⟩
 ·have hv:b=decide (0<=i/\i < 2):=by
   rw [<-hb];unfold plB
   rw [decide_eq_false (p:=((1<=t/\t<=6)/\0<=i/\i < 6)) (by omega),decide_eq_false (p:=t=10) (by omega)]
   simp only [Bool.or_false,Bool.false_or]
   exact decide_eq_decide.2 (by omega)
  subst hv
  clear hb
  rcases h with rfl | rfl | rfl
  all_goals
   by_cases h1:0<=i
   ·by_cases h2:i < 2
    ·rw [decide_eq_true (show 0<=i/\i < 2 from ⟨h1,h2⟩)]
     go_enter Tryz.func70,Tryz.ntmps70
     go_wp2
     go_ret
     exact ⟨by first | rfl | exact ret_bool (by simp [h1,h2]),HBB.out⟩
    ·rw [decide_eq_false (show ¬ (0<=i/\i < 2) by omega)]
     go_enter Tryz.func70,Tryz.ntmps70
     go_wp2
     go_ret
     exact ⟨by first | rfl | exact ret_bool (by simp;omega),HBB.out⟩
   ·rw [decide_eq_false (show ¬ (0<=i/\i < 2) by omega)]
    go_enter Tryz.func70,Tryz.ntmps70
    go_wp2
    go_ret
    exact ⟨by first | rfl | exact ret_bool (by simp;omega),HBB.out⟩
 ·have hv:b=true:=by rw [<-hb];unfold plB;simp
  subst hv
  clear hb
  go_enter Tryz.func70,Tryz.ntmps70
  go_wp2
  go_ret
  exact ⟨by first | rfl | exact ret_bool (by simp),HBB.out⟩
 ·have hv:b=false:=by
   rw [<-hb];unfold plB
   rw [decide_eq_false (p:=((1<=t/\t<=6)/\0<=i/\i < 6)) (by omega),decide_eq_false (p:=((7<=t/\t<=9)/\0<=i/\i < 2)) (by omega),decide_eq_false (p:=t=10) (by omega)]
   rfl
  subst hv
  clear hb
  have g1:(t == 1)=false:=by simp;omega
  have g2:(t == 2)=false:=by simp;omega
  have g3:(t == 3)=false:=by simp;omega
  have g4:(t == 4)=false:=by simp;omega
  have g5:(t == 5)=false:=by simp;omega
  have g6:(t == 6)=false:=by simp;omega
  have g7:(t == 7)=false:=by simp;omega
  have g8:(t == 8)=false:=by simp;omega
  have g9:(t == 9)=false:=by simp;omega
  have g10:(t == 10)=false:=by simp;omega
  go_enter Tryz.func70,Tryz.ntmps70
  go_wp2
  go_ret
  exact ⟨by first | rfl | exact ret_bool (by simp;omega),HBB.out⟩
theorem zag_u (n:Nat) (h:n<=18446744073709551615):IntKind.u64.wrap (zag (n:Int))=((zagU n:Nat):Int):=by
 unfold zag zagU
 by_cases h2:n % 2=0
 ·rw [if_pos (by omega),if_pos h2,IntWalk.u64_in _ (by omega)];omega
 ·rw [if_neg (by omega),if_neg h2]
  show (-((n:Int) / 2) - 1) % 18446744073709551616=_
  omega
theorem lnum_any (t:Int) (n:Nat) (w:World) (hn:n<=18446744073709551615):Calls Tryz.prog 73 #[.int .i64 t,.int .u64 (n:Int)] w fun e w'=>e=.returned (.int .u64 (numV t n:Nat))/\w'=w:=by
 by_cases c1:t=1
 ·subst c1
  have hv:numV 1 n=n % 4294967296:=rfl
  rw [hv]
  go_enter Tryz.func73,Tryz.ntmps73
  go_wp2
  go_ret
  exact ⟨by first | rfl | exact ret_int (by first | rfl | omega),rfl⟩
 by_cases c4:t=4
 ·subst c4
  obtain ⟨q,hq⟩:∃ q,numV 4 n=q:=⟨_,rfl⟩
  have hq2:min (n:Int) 1=(q:Int):=by
   rw [<-hq];show _=(((if n=0 then 0 else 1:Nat)):Int)
   split <;> omega
  rw [hq]
  have HQ:=hid hq2
  clear hq hq2
  go_enter Tryz.func73,Tryz.ntmps73
  go_wp2
  go_ret
  exact ⟨ret_int HQ.out,rfl⟩
 by_cases c3:t=3
 ·subst c3
  have hv:numV 3 n=zagU n:=rfl
  rw [hv]
  have hz:=fun W=>zag_any (n:Int) W (by omega) (by omega)
  have HZ:=hid hz
  have HU:=hid (zag_u n hn)
  clear hz
  go_enter Tryz.func73,Tryz.ntmps73
  go_wp2_with fail
  refine (HZ.out _).mono ?_
  rintro e w1 ⟨rfl,rfl⟩
  go_wp2_with fail
  go_ret
  exact ⟨ret_int HU.out,rfl⟩
 ·have hv:numV t n=n:=by unfold numV;rw [if_neg c1,if_neg c4,if_neg c3]
  rw [hv]
  have g1:(t == 1)=false:=by simpa using c1
  have g4:(t == 4)=false:=by simpa using c4
  have g3:(t == 3)=false:=by simpa using c3
  go_enter Tryz.func73,Tryz.ntmps73
  go_wp2
  go_ret
  exact ⟨rfl,rfl⟩
end Go.Proofs.YtpmfdlghckfgiaaGreat
set_option linter.unusedVariables false
set_option maxRecDepth 100000
set_option maxHeartbeats 16000000
namespace Go.Proofs.YtpmfdlghckfgiaaGreat
open Go.RowKit
theorem alloc4 {w W:World} {s:Nat} {o0 o1 o2:Obj} {C:Array Value} {t:TypeId} (h:(((w.alloc o0).alloc o1).alloc o2).alloc (.cells C t)=W) (hs:w.heap.size=s):Blk W (s+1+1+1) t C/\Below s w W:=by
 subst h
 refine ⟨?_,by rw [<-hs];exact bw_a (bw_a (bw_a (bw_a (Below.refl _ w) _) _) _) _⟩
 have h1:=Blk.new (((w.alloc o0).alloc o1).alloc o2) t C
 rw [World.size_alloc,World.size_alloc,World.size_alloc,hs] at h1
 exact h1
theorem bx4 {w:World} {s:Nat} (hws:w.heap.size=s) (C0 C1 C2 C3:Array Value) (t0 t1 t2 t3:TypeId):Blk ((((w.alloc (.cells C0 t0)).alloc (.cells C1 t1)).alloc (.cells C2 t2)).alloc (.cells C3 t3)) (s) t0 C0/\Blk ((((w.alloc (.cells C0 t0)).alloc (.cells C1 t1)).alloc (.cells C2 t2)).alloc (.cells C3 t3)) (s+1) t1 C1/\Blk ((((w.alloc (.cells C0 t0)).alloc (.cells C1 t1)).alloc (.cells C2 t2)).alloc (.cells C3 t3)) (s+1+1) t2 C2/\Blk ((((w.alloc (.cells C0 t0)).alloc (.cells C1 t1)).alloc (.cells C2 t2)).alloc (.cells C3 t3)) (s+1+1+1) t3 C3/\Below s w ((((w.alloc (.cells C0 t0)).alloc (.cells C1 t1)).alloc (.cells C2 t2)).alloc (.cells C3 t3)):=by
 subst hws
 refine ⟨(((Blk.new w t0 C0).alloc _).alloc _).alloc _,?_,?_,?_,bw_a (bw_a (bw_a (bw_a (Below.refl _ w) _) _) _) _⟩
 ·have h:=((Blk.new (w.alloc (.cells C0 t0)) t1 C1).alloc (.cells C2 t2)).alloc (.cells C3 t3)
  rw [World.size_alloc] at h;exact h
 ·have h:=(Blk.new ((w.alloc (.cells C0 t0)).alloc (.cells C1 t1)) t2 C2).alloc (.cells C3 t3)
  rw [World.size_alloc,World.size_alloc] at h;exact h
 ·have h:=Blk.new (((w.alloc (.cells C0 t0)).alloc (.cells C1 t1)).alloc (.cells C2 t2)) t3 C3
  rw [World.size_alloc,World.size_alloc,World.size_alloc] at h;exact h
def ownR (L:List SRow) (num w:Int):Option SRow:=L.find? fun r=>decide ((r.num:Int)=num) && decide (((wireN (r.typ:Int):Nat):Int)=w)
def rfS (f:RF × Nat):ByteArray:=⟨f.1.xs.toArray⟩
def decF (L:List SRow):MV->List (RF × Nat)->MV × List (RF × Nat) × Int × Nat
 | M,[]=>(M,[],0,0)
 | M,f :: fs=>match ownR L f.1.num f.1.w with
  | none=>((decF L M fs).1,f :: (decF L M fs).2.1,(decF L M fs).2.2)
  | some r=>if setE M (r.typ:Int) (r.slot:Int) (rfS f)=0 then decF L (setM M (r.typ:Int) (r.slot:Int) f.1.n (rfS f)) fs else (ZM,[],setE M (r.typ:Int) (r.slot:Int) (rfS f),f.2)
theorem decF_none {L:List SRow} {M:MV} {f:RF × Nat} {fs:List (RF × Nat)} (h:ownR L f.1.num f.1.w=none):decF L M (f :: fs)=((decF L M fs).1,f :: (decF L M fs).2.1,(decF L M fs).2.2):=by
 rw [decF,h]
theorem decF_ok {L:List SRow} {M:MV} {f:RF × Nat} {fs:List (RF × Nat)} {r:SRow} (h:ownR L f.1.num f.1.w=some r) (he:setE M (r.typ:Int) (r.slot:Int) (rfS f)=0):decF L M (f :: fs)=decF L (setM M (r.typ:Int) (r.slot:Int) f.1.n (rfS f)) fs:=by
 rw [decF,h];simp only;rw [if_pos he]
theorem decF_bad {L:List SRow} {M:MV} {f:RF × Nat} {fs:List (RF × Nat)} {r:SRow} (h:ownR L f.1.num f.1.w=some r) (he:setE M (r.typ:Int) (r.slot:Int) (rfS f) ≠ 0):decF L M (f :: fs)=(ZM,[],setE M (r.typ:Int) (r.slot:Int) (rfS f),f.2):=by
 rw [decF,h];simp only;rw [if_neg he]
def MV.z (m:MV):MV:={ m with A:=none,c:=0 }
theorem setE_z (m:MV) (A:Option Addr) (c:Nat) (t i:Int) (s:ByteArray):setE { m with A:=A,c:=c } t i s=setE m t i s:=rfl
theorem setM_len (m:MV) (t i:Int) (n:Nat) (s:ByteArray) (hl:m.l.length<=64):(setM m t i n s).l.length<=64:=by
 unfold setM
 split
 ·simp [ZM]
 ·rename_i he
  split
  ·exact hl
  ·split
   ·exact hl
   ·rename_i h1 h2
    simp only [List.length_append,List.length_cons,List.length_nil]
    unfold setE at he
    by_cases hp:plB t i=false
    ·rw [if_pos hp] at he;simp at he
    ·rw [if_neg hp,if_neg h1,if_neg h2] at he
     by_cases h64:64<=m.l.length
     ·rw [if_pos h64] at he;simp at he
     ·omega
theorem find_and {α:Type} (p q:α->Bool) (L:List α) (hu:∀ a ∈ L,∀ b ∈ L,p a=true->p b=true->a=b):L.find? (fun a=>p a && q a)=match L.find? p with | some r=>if q r then some r else none | none=>none:=by
 induction L with
 | nil=>rfl
 | cons x L ih =>
  have ih:=ih (fun a ha b hb=>hu a (List.mem_cons_of_mem _ ha) b (List.mem_cons_of_mem _ hb))
  rw [List.find?_cons,List.find?_cons]
  cases hp:p x
  ·simp only [Bool.false_and];exact ih
  ·cases hq:q x
   ·simp only [Bool.and_false]
    rw [hq]
    simp only [Bool.false_eq_true,if_false]
    rw [List.find?_eq_none]
    intro a ha h
    simp only [Bool.and_eq_true] at h
    have:=hu a (List.mem_cons_of_mem _ ha) x (List.mem_cons_self ..) h.1 hp
    subst this
    rw [hq] at h;exact absurd h.2 (by simp)
   ·simp [hq]
theorem rows_uni:∀ a ∈ ROWS,∀ b ∈ ROWS,a.kind=b.kind->a.num=b.num->a=b:=by decide +kernel
theorem rows_wire:∀ a ∈ ROWS,wireN (a.typ:Int)=wireD (a.typ:Int):=by decide +kernel
theorem ownR_fin (k v num w:Int):ownR (ofL k v) num w=match finS k v num with | some r=>if decide (((wireD (r.typ:Int):Nat):Int)=w) then some r else none | none=>none:=by
 have h1:ownR (ofL k v) num w=(kn v).find? (fun r=>pF k num r && decide (((wireN (r.typ:Int):Nat):Int)=w)):=by
  unfold ownR ofL
  rw [List.find?_filter]
  congr 1
  funext r
  unfold pF
  by_cases a:(r.kind:Int)=k <;> by_cases b:(r.num:Int)=num <;> simp [a,b]
 rw [h1,find_and (pF k num) (fun r=>decide (((wireN (r.typ:Int):Nat):Int)=w)) (kn v) (by
  intro a ha b hb h2 h3
  unfold pF at h2 h3
  simp only [decide_eq_true_eq] at h2 h3
  exact rows_uni a (kn_mem v ha) b (kn_mem v hb) (by omega) (by omega))]
 have hf:finS k v num=(kn v).find? (pF k num):=rfl
 rw [hf]
 cases hq:(kn v).find? (pF k num) with
 | none=>rfl
 | some r =>
  simp only
  rw [rows_wire r (kn_mem v (List.mem_of_find?_eq_some hq))]
end Go.Proofs.YtpmfdlghckfgiaaGreat
set_option linter.unusedVariables false
set_option maxRecDepth 100000
set_option maxHeartbeats 16000000
namespace Go.Proofs.YtpmfdlghckfgiaaGreat
open Go.RowKit
theorem num_top (M:MV) (i:Int):(∃ k:Nat,k<=5/\i=(k:Int))\/M.num i=0:=by
 by_cases h:i < 0\/6<=i
 ·exact .inr (num_out M i h)
 ·exact .inl ⟨i.toNat,by omega,by omega⟩
theorem text_top (M:MV) (i:Int):(∃ k:Nat,k<=1/\i=(k:Int))\/M.text i=⟨#[]⟩:=by
 by_cases h:i < 0\/2<=i
 ·exact .inr (text_out M i h)
 ·exact .inl ⟨i.toNat,by omega,by omega⟩
theorem row_slot {r:SRow} (h:r ∈ ROWS):r.slot<=5/\(7<=r.typ->r.typ<=9->r.slot<=1):=by have:=row_ok2 h;exact ⟨this.2.2.1,this.2.2.2⟩
theorem rows_apart (k:Nat) (v:Int) {r x:SRow} (hr:r ∈ ofL (k:Int) v) (hx:x ∈ ofL (k:Int) v) (hne:r ≠ x):r.num ≠ x.num/\¬ (sortN r.typ=sortN x.typ/\r.slot=x.slot):=by
 obtain ⟨i,hi,rfl⟩:=List.getElem_of_mem hr
 obtain ⟨j,hj,rfl⟩:=List.getElem_of_mem hx
 rcases Nat.lt_trichotomy i j with h | h | h
 ·have:=grow_apart k v j i hj h
  exact ⟨by omega,this.2⟩
 ·subst h;exact absurd rfl hne
 ·have:=grow_apart k v i j hi h
  exact ⟨by omega,fun h2=>this.2 ⟨h2.1.symm,h2.2.symm⟩⟩
def k4 (f:FV):Int × Int × Nat × List UInt8:=(f.num,f.w,f.n,f.s.xs)
def KOk (x:Int × Int × Nat × List UInt8 × Int):Prop:=0<=x.2.1/\x.2.1<=255/\x.2.2.1<=18446744073709551615 /\ -9223372036854775808<=x.1/\x.1<=9223372036854775807 /\ -9223372036854775808<=x.2.2.2.2/\x.2.2.2.2<=9223372036854775807/\x.2.2.2.1.length<=8000
theorem KOk.ok {w:World} {f:FV} (h:KOk (fvK f)) (hs:Sl w f.s.A f.s.c (f.s.xs.map bv)):FvOk w f:=⟨h.1,h.2.1,h.2.2.1,h.2.2.2.1,h.2.2.2.2.1,h.2.2.2.2.2.1,h.2.2.2.2.2.2.1,hs⟩
end Go.Proofs.YtpmfdlghckfgiaaGreat
set_option linter.unusedVariables false
set_option maxRecDepth 100000
set_option maxHeartbeats 16000000
namespace Go.Proofs.YtpmfdlghckfgiaaGreat
open Go.RowKit
theorem ofL_kindN {k v:Int} {r:SRow} (h:r ∈ ofL k v):(r.kind:Int)=k:=((ofL_iff k v r).1 h).2.2.2
theorem own_mem {k v num w:Int} {r:SRow} (h:ownR (ofL k v) num w=some r):r ∈ ofL k v/\(r.num:Int)=num/\((wireN (r.typ:Int):Nat):Int)=w:=by
 unfold ownR at h
 have h1:=List.mem_of_find?_eq_some h
 have h2:=List.find?_some h
 simp only [Bool.and_eq_true,decide_eq_true_eq] at h2
 exact ⟨h1,h2.1,h2.2⟩
theorem plB_text {t i:Nat} (h7:7<=t) (h9:t<=9) (hi:i<=1):plB (t:Int) (i:Int)=true:=by
 unfold plB;rw [decide_eq_true (p:=((7<=(t:Int)/\(t:Int)<=9)/\0<=(i:Int)/\(i:Int) < 2)) (by omega)];simp
theorem plB_list (i:Int):plB 10 i=true:=by unfold plB;simp
theorem fldE_wrong {b:MV} {r:SRow} (h:fldE b r=0) (hd:dflB b (r.typ:Nat) (r.slot:Nat)=false):wrongE b (r.typ:Nat) (r.slot:Nat)=0:=by
 unfold fldE at h
 rw [hd] at h
 simpa using h
theorem fldE_list {b:MV} {r:SRow} (ht:r.typ=10) (h:fldE b r=0):b.l.length<=64/\∀ s ∈ b.l,chk s 64=0:=by
 cases hd:dflB b (r.typ:Nat) (r.slot:Nat) with
 | true =>
  unfold dflB at hd
  rw [ht,if_neg (by omega),if_neg (by omega),if_pos (by omega)] at hd
  have:b.l=[]:=by simpa using hd
  rw [this];simp
 | false =>
  have hw:=fldE_wrong h hd
  unfold wrongE at hw
  rw [ht,if_neg (by omega),if_neg (by omega),if_neg (by omega),if_pos (by omega)] at hw
  exact lstE_each hw
theorem lists_uni {a b:SRow} (ha:a ∈ ROWS) (hb:b ∈ ROWS) (hk:a.kind=b.kind) (h1:a.typ=10) (h2:b.typ=10):a=b:=by
 have h:=List.all_eq_true.1 (List.all_eq_true.1 (show (ROWS.all fun a=>ROWS.all fun b => !(decide (a.kind=b.kind) && decide (a.typ=10) && decide (b.typ=10)) || decide (a=b))=true by decide +kernel) a ha) b hb
 rw [decide_eq_true hk,decide_eq_true h1,decide_eq_true h2] at h
 simpa using h
end Go.Proofs.YtpmfdlghckfgiaaGreat
set_option linter.unusedVariables false
set_option maxRecDepth 100000
set_option maxHeartbeats 16000000
namespace Go.Proofs.YtpmfdlghckfgiaaGreat
open Go.RowKit
theorem spRow_get {w:World} {A:Option Addr} {n c:Nat} {l:List SRow} (hn:l.length=n) (h:SlN w A n c 3 (l.flatMap specC)) (j:Nat) (hj:j < l.length) :
  ∃ b off,A=some ⟨b,off,none⟩/\b < w.heap.size/\w.cell? ⟨b,off+j * 3,none⟩=some (.int .i64 (l[j].num:Nat))/\w.cell? ⟨b,off+j * 3+1,none⟩=some (.int .i64 (l[j].typ:Nat))/\w.cell? ⟨b,off+j * 3+2,none⟩=some (.int .i64 (l[j].slot:Nat)):=by
 have hn0:(l.flatMap specC)[j * 3+0]? = _:=flatMap_get specC 3 l j 0 hj (fun _ _=>rfl) (by omega)
 have hn1:(l.flatMap specC)[j * 3+1]? = _:=flatMap_get specC 3 l j 1 hj (fun _ _=>rfl) (by omega)
 have hn2:(l.flatMap specC)[j * 3+2]? = _:=flatMap_get specC 3 l j 2 hj (fun _ _=>rfl) (by omega)
 obtain ⟨b,off,rfl,hb,t0⟩:=h.rd (j * 3) (.int .i64 (l[j].num:Nat)) (by simpa [specC] using hn0)
 have t1:=h.rd.addr (j * 3+1) (.int .i64 (l[j].typ:Nat)) (by simpa [specC] using hn1)
 have t2:=h.rd.addr (j * 3+2) (.int .i64 (l[j].slot:Nat)) (by simpa [specC] using hn2)
 rw [addr_add] at t1 t2
 exact ⟨b,off,rfl,hb,t0,by rw [Nat.add_assoc];exact t1,by rw [Nat.add_assoc];exact t2⟩
theorem lowner_any (L:List SRow) (nL:Nat) (A:Option Addr) (c:Nat) (num fw:Int) (fn:Nat) (fA:Option Addr) (xl fc:Nat) (fat:Int) (w:World) (hn:L.length=nL) (hl:nL<=1000) (hs:SlN w A nL c 3 (L.flatMap specC)) :
  Calls Tryz.prog 69 #[.slice A nL c,.agg #[.int .i64 num,.int .u8 fw,.int .u64 (fn:Int),.slice fA xl fc,.int .i64 fat]] w fun e w'=>e=.returned (specO (ownR L num fw))/\Below w.heap.size w w':=by
 have HN:=hid hn
 have HS:=hid hs
 have hcap:nL<=c:=hs.cap
 obtain ⟨s,hsz⟩:∃ s,w.heap.size=s:=⟨_,rfl⟩
 rw [hsz]
 obtain ⟨R,hR⟩:∃ R,ownR L num fw=R:=⟨_,rfl⟩
 rw [hR]
 have HR:=hid hR
 clear hn hs hR
 go_enter Tryz.func69,Tryz.ntmps69
 go_wp2_with fail
 have hk0:Blk ((w.alloc (.cells #[.int .i64 num,.int .u8 fw,.int .u64 (fn:Int),.slice fA xl fc,.int .i64 fat] 61)).alloc (.cells #[.int .i64 0,.int .i64 0,.int .i64 0] 57)) s 61 #[.int .i64 num,.int .u8 fw,.int .u64 (fn:Int),.slice fA xl fc,.int .i64 fat]:=by
  rw [<-hsz];exact (Blk.new w _ _).alloc _
 have hk1:Blk ((w.alloc (.cells #[.int .i64 num,.int .u8 fw,.int .u64 (fn:Int),.slice fA xl fc,.int .i64 fat] 61)).alloc (.cells #[.int .i64 0,.int .i64 0,.int .i64 0] 57)) (s+1) 57 #[.int .i64 0,.int .i64 0,.int .i64 0]:=by
  have h1:=Blk.new (w.alloc (.cells #[.int .i64 num,.int .u8 fw,.int .u64 (fn:Int),.slice fA xl fc,.int .i64 fat] 61)) 57 #[.int .i64 0,.int .i64 0,.int .i64 0]
  rw [World.size_alloc,hsz] at h1;exact h1
 have hb0:Below s w ((w.alloc (.cells #[.int .i64 num,.int .u8 fw,.int .u64 (fn:Int),.slice fA xl fc,.int .i64 fat] 61)).alloc (.cells #[.int .i64 0,.int .i64 0,.int .i64 0] 57)):=by
  rw [<-hsz];exact bw_a (bw_a (Below.refl _ w) _) _
 generalize ((w.alloc (.cells #[.int .i64 num,.int .u8 fw,.int .u64 (fn:Int),.slice fA xl fc,.int .i64 fat] 61)).alloc (.cells #[.int .i64 0,.int .i64 0,.int .i64 0] 57))=W0 at *
 have HK0:=hid hk0
 have HK1:=hid hk1
 have HB0:=hid hb0
 have HSZ:=hid hsz
 clear hk0 hk1 hb0
 go_loopw [6,7,8,11] (fun _ _ _ i wr=>∃ j:Nat,j<=nL/\i=.int .i64 (j:Int)/\ownR (L.take j) num fw=none/\Blk wr s 61 #[.int .i64 num,.int .u8 fw,.int .u64 (fn:Int),.slice fA xl fc,.int .i64 fat]/\Blk wr (s+1) 57 #[.int .i64 0,.int .i64 0,.int .i64 0]/\Below s w wr) (fun _ _ _ i _=>nL - (intOf i).toNat)
 case atStart=>exact ⟨0,by omega,rfl,rfl,HK0.out,HK1.out,HB0.out⟩
 case round =>
  obtain ⟨j,hj,rfl,hno,hk0,hk1,hB⟩:=hrel
  by_cases hlt:j < nL
  ·have hjl:j < L.length:=by have:=HN.out;omega
   obtain ⟨b,off,rfl,hb,t0,t1,t2⟩:=spRow_get HN.out HS.out j hjl
   have t0:=(hB.cell (p:=⟨b,off+j * 3,none⟩) (by show b < s;omega)).trans t0
   have t1:=(hB.cell (p:=⟨b,off+j * 3+1,none⟩) (by show b < s;omega)).trans t1
   have t2:=(hB.cell (p:=⟨b,off+j * 3+2,none⟩) (by show b < s;omega)).trans t2
   have htk:L.take (j+1)=L.take j++[L[j]]:=List.take_succ_eq_append_getElem hjl
   have hsz2:=hB.size
   have hbw:b < wr.heap.size:=by omega
   have hji:(j:Int) < (nL:Int):=by omega
   have hj0:(0:Int)<=(j:Int):=by omega
   have hown1:ownR (L.take (j+1)) num fw=ownR [L[j]] num fw:=by
    unfold ownR at hno ⊢
    rw [htk,List.find?_append,hno];rfl
   have hownL:ownR [L[j]] num fw=some L[j]->ownR L num fw=some L[j]:=by
    intro h
    rw [h] at hown1
    have key:ownR (L.take (j+1)++L.drop (j+1)) num fw=some L[j]:=by
     unfold ownR at hown1 ⊢
     rw [List.find?_append,hown1];rfl
    rw [List.take_append_drop] at key
    exact key
   have hone:ownR [L[j]] num fw=if ((L[j].num:Int) == num && (((wireN (L[j].typ:Int):Nat):Int) == fw))=true then some L[j] else none:=by
    unfold ownR
    rw [List.find?_cons]
    by_cases h1:(L[j].num:Int)=num <;> by_cases h2:((wireN (L[j].typ:Int):Nat):Int)=fw <;> simp [h1,h2]
   have hw:=fun W=>swire_any (L[j].typ:Int) W
   have hc0:=hk0.cell 0
   have hc1:=hk0.cell 1
   simp only [gA,gB,gC] at hc0 hc1
   have hkl:=hk0.lt
   have hkl1:=hk1.lt
   have z0:=hk1.cell 0
   have z1:=hk1.cell 1
   have z2:=hk1.cell 2
   simp only [gA,gB,gC] at z0 z1 z2
   have g0:=hk1.frozen 0
   have g1:=hk1.frozen 1
   have g2:=hk1.frozen 2
   have HK0:=hid hk0
   have HK1:=hid hk1
   have HB:=hid hB
   have HO1:=hid hown1
   have HOL:=hid hownL
   have HOO:=hid hone
   have HW:=hid hw
   clear hown1 hownL hone hw hk0 hk1 hB hno htk
   generalize L[j]=r at *
   obtain ⟨rk,rsi,rn,rt,rs⟩:=r
   simp only at t0 t1 t2
   generalize wireN (rt:Int)=wn at *
   generalize wireK (rt:Int)=wk at *
   by_cases hnum:(rn:Int)=num
   ·by_cases hwire:(wn:Int)=fw
    ·have hR:R=some ⟨rk,rsi,rn,rt,rs⟩:=by rw [<-HR.out];exact HOL.out (by rw [HOO.out];simp [hnum,hwire])
     subst hR
     subst hnum
     subst hwire
     go_wp2_with (go_at_call 96;refine (HW.out _).mono ?_;rintro e w' ⟨rfl,rfl⟩)
     have hkR:=((((HK1.out).set_ 0 (.int .i64 (rn:Nat))).set_ 1 (.int .i64 (rt:Nat))).set_ 2 (.int .i64 (rs:Nat))).alloc (.cells #[.int .i64 (rn:Nat),.int .i64 (rt:Nat),.int .i64 (rs:Nat)] 57)
     simp only [Array.setIfInBounds,List.size_toArray,List.length_cons,List.length_nil,Nat.reduceAdd,Nat.reduceLT,dite_true,List.set_toArray,gF,gE,Nat.zero_lt_succ,Nat.lt_add_one] at hkR
     have r0:=hkR.cell 0
     have r1:=hkR.cell 1
     have r2:=hkR.cell 2
     simp only [gA,gB,gC] at r0 r1 r2
     have hbR:=(((HB.out.setCell (p:=⟨s+1,0,none⟩) (by show s<=s+1;omega) (.int .i64 (rn:Nat))).setCell (p:=⟨s+1,1,none⟩) (by show s<=s+1;omega) (.int .i64 (rt:Nat))).setCell (p:=⟨s+1,2,none⟩) (by show s<=s+1;omega) (.int .i64 (rs:Nat))).alloc (by have:=HB.out.size;simp only [World.setCell];simp;omega) (.cells #[.int .i64 (rn:Nat),.int .i64 (rt:Nat),.int .i64 (rs:Nat)] 57)
     try simp only [Exit.inBlock,Exit.then]
     refine bodyPost_ret (v:=specV ⟨rk,rsi,rn,rt,rs⟩) (by simp [results,Tryz.results69,go_sem,r0,r1,r2,specV]) rfl ⟨rfl,hbR⟩
    ·have hne:((wn:Int) == fw)=false:=by simp;exact hwire
     subst hnum
     have hno2:ownR (L.take (j+1)) (rn:Int) fw=none:=by rw [HO1.out,HOO.out,hne];simp
     have HNO:=hid hno2
     have HB2:=hid (HB.out.alloc (by omega) (.cells #[.int .i64 (rn:Nat),.int .i64 (rt:Nat),.int .i64 (rs:Nat)] 57))
     clear hno2
     go_wp2_with (go_at_call 96;refine (HW.out _).mono ?_;rintro e w' ⟨rfl,rfl⟩)
     go_roundw
     case rel=>exact ⟨j+1,by omega,by go_num,HNO.out,HK0.out.alloc _,HK1.out.alloc _,HB2.out⟩
     case measure=>simp [intOf];omega
   ·have hne:((rn:Int) == num)=false:=by simp;exact hnum
    have hno2:ownR (L.take (j+1)) num fw=none:=by rw [HO1.out,HOO.out,hne];simp
    have HNO:=hid hno2
    have HB2:=hid (HB.out.alloc (by omega) (.cells #[.int .i64 (rn:Nat),.int .i64 (rt:Nat),.int .i64 (rs:Nat)] 57))
    clear hno2
    go_wp2_with (go_at_call 96;refine (HW.out _).mono ?_;rintro e w' ⟨rfl,rfl⟩)
    go_roundw
    case rel=>exact ⟨j+1,by omega,by go_num,HNO.out,HK0.out.alloc _,HK1.out.alloc _,HB2.out⟩
    case measure=>simp [intOf];omega
  ·obtain rfl:j=nL:=by omega
   rw [List.take_of_length_le (by have:=HN.out;omega)] at hno
   have hR:R=none:=by rw [<-HR.out];exact hno
   subst hR
   have HK1:=hid hk1
   have HB:=hid hB
   have z0:=hk1.cell 0
   have z1:=hk1.cell 1
   have z2:=hk1.cell 2
   simp only [gA,gB,gC] at z0 z1 z2
   clear hk0 hno hB
   have hkl1:=hk1.lt
   have g0:=hk1.frozen 0
   have g1:=hk1.frozen 1
   have g2:=hk1.frozen 2
   clear hk1
   go_wp2_with fail
   have hkR:=(((HK1.out.set_ 0 (.int .i64 0)).set_ 1 (.int .i64 0)).set_ 2 (.int .i64 0))
   simp only [Array.setIfInBounds,List.size_toArray,List.length_cons,List.length_nil,Nat.reduceAdd,Nat.reduceLT,dite_true,List.set_toArray,gF,gE,Nat.zero_lt_succ,Nat.lt_add_one] at hkR
   have r0:=hkR.cell 0
   have r1:=hkR.cell 1
   have r2:=hkR.cell 2
   simp only [gA,gB,gC] at r0 r1 r2
   have hbR:=((HB.out.setCell (p:=⟨s+1,0,none⟩) (by show s<=s+1;omega) (.int .i64 0)).setCell (p:=⟨s+1,1,none⟩) (by show s<=s+1;omega) (.int .i64 0)).setCell (p:=⟨s+1,2,none⟩) (by show s<=s+1;omega) (.int .i64 0)
   try simp only [Exit.inBlock,Exit.then]
   refine bodyPost_ret (v:=specO none) (by simp [results,Tryz.results69,go_sem,r0,r1,r2,specO]) rfl ⟨rfl,hbR⟩
end Go.Proofs.YtpmfdlghckfgiaaGreat
set_option linter.unusedVariables false
set_option maxRecDepth 100000
set_option maxHeartbeats 16000000
namespace Go.Proofs.YtpmfdlghckfgiaaGreat
open Go.RowKit
theorem below_drwR {B:Nat} {a b:World} (h:Below B a b):Below B a b.drew:=⟨h.os,h.tape,h.output,h.size,h.block⟩
theorem specO_cases (o:Option SRow):∃ a b c:Nat,specO o=.agg #[.int .i64 (a:Int),.int .i64 (b:Int),.int .i64 (c:Int)]/\(∀ r,o=some r->b=r.typ):=by
 cases o with
 | none=>exact ⟨0,0,0,rfl,fun r h=>by cases h⟩
 | some r=>exact ⟨r.num,r.typ,r.slot,rfl,fun r' h=>by injection h with h;rw [h]⟩
theorem rbelongs_any (k v:Int) (num fw:Int) (fn:Nat) (fA:Option Addr) (xl fc:Nat) (fat:Int) (w:World) (hk0:0<=k) (hk:k<=255) (hv1 : -9223372036854775808<=v) (hv2:v<=9223372036854775807) :
  Calls Tryz.prog 23 #[.int .u8 k,.int .i64 v,.agg #[.int .i64 num,.int .u8 fw,.int .u64 (fn:Int),.slice fA xl fc,.int .i64 fat]] w fun e w'=>e=.returned (.tuple #[specO (finS k v num),.bool (ownR (ofL k v) num fw).isSome])/\Below w.heap.size w w':=by
 have hf:=fun W=>r8find_any k v num W hk0 hk hv1 hv2
 have hown:=ownR_fin k v num fw
 obtain ⟨a,b,c,hsp,hspt⟩:=specO_cases (finS k v num)
 rw [hsp] at hf ⊢
 have hwr:=fun W=>rwire_any (b:Int) W
 obtain ⟨R,hR⟩:∃ R,(ownR (ofL k v) num fw).isSome=R:=⟨_,rfl⟩
 rw [hR]
 have hRe:R=((finS k v num).isSome && decide (((wireD (b:Int):Nat):Int)=fw)):=by
  rw [<-hR,hown]
  cases hq:finS k v num with
  | none=>rfl
  | some r =>
   have:=hspt r hq
   subst this
   simp only [Option.isSome_some,Bool.true_and]
   split <;> simp_all
 generalize (finS k v num).isSome=ok at *
 generalize wireD (b:Int)=wn at *
 obtain ⟨s,hsz⟩:∃ s,w.heap.size=s:=⟨_,rfl⟩
 rw [hsz]
 have HF:=hid hf
 have HWR:=hid hwr
 have HR:=hid hRe
 have HSZ:=hid hsz
 clear hf hwr hRe hR hown hsp hspt
 go_enter Tryz.func23,Tryz.ntmps23
 go_wp2_with fail
 have hk0:Blk ((w.alloc (.cells #[.int .i64 num,.int .u8 fw,.int .u64 (fn:Int),.slice fA xl fc,.int .i64 fat] 61)).alloc (.cells #[.int .i64 0,.int .i64 0,.int .i64 0] 57)) s 61 #[.int .i64 num,.int .u8 fw,.int .u64 (fn:Int),.slice fA xl fc,.int .i64 fat]:=by
  rw [<-hsz];exact (Blk.new w _ _).alloc _
 have hk1:Blk ((w.alloc (.cells #[.int .i64 num,.int .u8 fw,.int .u64 (fn:Int),.slice fA xl fc,.int .i64 fat] 61)).alloc (.cells #[.int .i64 0,.int .i64 0,.int .i64 0] 57)) (s+1) 57 #[.int .i64 0,.int .i64 0,.int .i64 0]:=by
  have h1:=Blk.new (w.alloc (.cells #[.int .i64 num,.int .u8 fw,.int .u64 (fn:Int),.slice fA xl fc,.int .i64 fat] 61)) 57 #[.int .i64 0,.int .i64 0,.int .i64 0]
  rw [World.size_alloc,hsz] at h1;exact h1
 have hb0:Below s w ((w.alloc (.cells #[.int .i64 num,.int .u8 fw,.int .u64 (fn:Int),.slice fA xl fc,.int .i64 fat] 61)).alloc (.cells #[.int .i64 0,.int .i64 0,.int .i64 0] 57)):=by
  rw [<-hsz];exact bw_a (bw_a (Below.refl _ w) _) _
 generalize ((w.alloc (.cells #[.int .i64 num,.int .u8 fw,.int .u64 (fn:Int),.slice fA xl fc,.int .i64 fat] 61)).alloc (.cells #[.int .i64 0,.int .i64 0,.int .i64 0] 57))=W0 at *
 refine (HF.out W0).mono ?_
 rintro e w1 ⟨rfl,hb1⟩
 have hl0:=hk0.lt
 have hl1:=hk1.lt
 have hk0:=(hk0.below hb1 hl0).alloc (.cells #[.int .i64 (a:Int),.int .i64 (b:Int),.int .i64 (c:Int)] 57)
 have hk1:=(hk1.below hb1 hl1).alloc (.cells #[.int .i64 (a:Int),.int .i64 (b:Int),.int .i64 (c:Int)] 57)
 have hk2:=Blk.new w1 57 #[.int .i64 (a:Int),.int .i64 (b:Int),.int .i64 (c:Int)]
 have hs1:=hb1.size
 have hb2:Below s w (w1.alloc (.cells #[.int .i64 (a:Int),.int .i64 (b:Int),.int .i64 (c:Int)] 57)):=(hb0.trans (hb1.mono (by have:=hb0.size;omega))).alloc (by omega) _
 clear hb0 hb1
 obtain ⟨g,hg⟩:∃ g,w1.heap.size=g:=⟨_,rfl⟩
 have hz0:=HSZ.out
 have hgs:s+2<=g:=by have:=hk1.lt;rw [World.size_alloc] at this;have h2:=hs1;omega
 rw [hg] at hk2
 have x0:=hk2.cell 0
 have x1:=hk2.cell 1
 have x2:=hk2.cell 2
 have f1:=hk0.cell 1
 have r0:=hk1.cell 0
 have r1:=hk1.cell 1
 have r2:=hk1.cell 2
 have z0:=hk1.frozen 0
 have z1:=hk1.frozen 1
 have z2:=hk1.frozen 2
 simp only [gA,gB,gC] at x0 x1 x2 f1 r0 r1 r2
 have l0:=hk0.lt
 have l1:=hk1.lt
 have l2:=hk2.lt
 have n1:¬ g=s+1:=by omega
 have n2:¬ s+1=g:=by omega
 have n3:¬ s=s+1:=by omega
 have n4:¬ s+1=s:=by omega
 have HK1:=hid hk1
 have HB2:=hid hb2
 clear hk0 hk1 hk2 hb2 hs1
 go_wp2_with fail
 try rw [hg]
 generalize (w1.alloc (.cells #[.int .i64 (a:Int),.int .i64 (b:Int),.int .i64 (c:Int)] 57))=W2 at *
 have HRc:=HR.out
 clear HR
 cases ok
 ·have hR:R=false:=HRc
  clear HRc
  subst hR
  go_region
  go_wp2_with fail
  have hkR:=((((HK1.out).set_ 0 (.int .i64 (a:Int))).set_ 1 (.int .i64 (b:Int))).set_ 2 (.int .i64 (c:Int)))
  simp only [Array.setIfInBounds,List.size_toArray,List.length_cons,List.length_nil,Nat.reduceAdd,Nat.reduceLT,dite_true,List.set_toArray,gF,gE,Nat.zero_lt_succ,Nat.lt_add_one] at hkR
  have hbR:=((HB2.out.setCell (p:=⟨s+1,0,none⟩) (by show s<=s+1;omega) (.int .i64 (a:Int))).setCell (p:=⟨s+1,1,none⟩) (by show s<=s+1;omega) (.int .i64 (b:Int))).setCell (p:=⟨s+1,2,none⟩) (by show s<=s+1;omega) (.int .i64 (c:Int))
  generalize (((W2.setCell ⟨s+1,0,none⟩ (.int .i64 (a:Int))).setCell ⟨s+1,1,none⟩ (.int .i64 (b:Int))).setCell ⟨s+1,2,none⟩ (.int .i64 (c:Int)))=W3 at *
  have hkD:Blk W3.drew (s+1) 57 #[.int .i64 (a:Int),.int .i64 (b:Int),.int .i64 (c:Int)]:=hkR
  have q0:=hkD.cell 0
  have q1:=hkD.cell 1
  have q2:=hkD.cell 2
  simp only [gA,gB,gC] at q0 q1 q2
  try simp only [Exit.inBlock,Exit.then]
  refine bodyPost_ret (v:=.tuple #[.agg #[.int .i64 (a:Int),.int .i64 (b:Int),.int .i64 (c:Int)],.bool false]) (by simp [results,Tryz.results23,go_sem,q0,q1,q2]) rfl ⟨rfl,below_drwR hbR⟩
 ·by_cases hw:(wn:Int)=fw
  ·have hR:R=true:=by rw [HRc];simp [hw]
   clear HRc
   subst hR
   have hw1:((wn:Int) == fw)=true:=by simp [hw]
   clear hw
   go_region_held3 (fun w'=>w'.cell? ⟨g,0,none⟩=some (.int .i64 (a:Int))/\w'.cell? ⟨g,1,none⟩=some (.int .i64 (b:Int))/\w'.cell? ⟨g,2,none⟩=some (.int .i64 (c:Int))/\w'.cell? ⟨s,1,none⟩=some (.int .u8 fw)) (first | exact ⟨x0,x1,x2,f1⟩ | go_keep) (first | (go_at_call 36;(with_reducible refine (HWR.out _).mono ?_);rintro e w' ⟨rfl,rfl⟩))
   go_wp2_with fail
   have hkR:=((((HK1.out).set_ 0 (.int .i64 (a:Int))).set_ 1 (.int .i64 (b:Int))).set_ 2 (.int .i64 (c:Int)))
   simp only [Array.setIfInBounds,List.size_toArray,List.length_cons,List.length_nil,Nat.reduceAdd,Nat.reduceLT,dite_true,List.set_toArray,gF,gE,Nat.zero_lt_succ,Nat.lt_add_one] at hkR
   have hbR:=((HB2.out.setCell (p:=⟨s+1,0,none⟩) (by show s<=s+1;omega) (.int .i64 (a:Int))).setCell (p:=⟨s+1,1,none⟩) (by show s<=s+1;omega) (.int .i64 (b:Int))).setCell (p:=⟨s+1,2,none⟩) (by show s<=s+1;omega) (.int .i64 (c:Int))
   generalize (((W2.setCell ⟨s+1,0,none⟩ (.int .i64 (a:Int))).setCell ⟨s+1,1,none⟩ (.int .i64 (b:Int))).setCell ⟨s+1,2,none⟩ (.int .i64 (c:Int)))=W3 at *
   have hkD:Blk W3.drew (s+1) 57 #[.int .i64 (a:Int),.int .i64 (b:Int),.int .i64 (c:Int)]:=hkR
   have q0:=hkD.cell 0
   have q1:=hkD.cell 1
   have q2:=hkD.cell 2
   simp only [gA,gB,gC] at q0 q1 q2
   try simp only [Exit.inBlock,Exit.then]
   refine bodyPost_ret (v:=.tuple #[.agg #[.int .i64 (a:Int),.int .i64 (b:Int),.int .i64 (c:Int)],.bool true]) (by simp [results,Tryz.results23,go_sem,q0,q1,q2]) rfl ⟨rfl,below_drwR hbR⟩
  ·have hR:R=false:=by rw [HRc];simp [hw]
   clear HRc
   subst hR
   have hw1:((wn:Int) == fw)=false:=by simp;exact hw
   clear hw
   go_region_held3 (fun w'=>w'.cell? ⟨g,0,none⟩=some (.int .i64 (a:Int))/\w'.cell? ⟨g,1,none⟩=some (.int .i64 (b:Int))/\w'.cell? ⟨g,2,none⟩=some (.int .i64 (c:Int))/\w'.cell? ⟨s,1,none⟩=some (.int .u8 fw)) (first | exact ⟨x0,x1,x2,f1⟩ | go_keep) (first | (go_at_call 36;(with_reducible refine (HWR.out _).mono ?_);rintro e w' ⟨rfl,rfl⟩))
   go_wp2_with fail
   have hkR:=((((HK1.out).set_ 0 (.int .i64 (a:Int))).set_ 1 (.int .i64 (b:Int))).set_ 2 (.int .i64 (c:Int)))
   simp only [Array.setIfInBounds,List.size_toArray,List.length_cons,List.length_nil,Nat.reduceAdd,Nat.reduceLT,dite_true,List.set_toArray,gF,gE,Nat.zero_lt_succ,Nat.lt_add_one] at hkR
   have hbR:=((HB2.out.setCell (p:=⟨s+1,0,none⟩) (by show s<=s+1;omega) (.int .i64 (a:Int))).setCell (p:=⟨s+1,1,none⟩) (by show s<=s+1;omega) (.int .i64 (b:Int))).setCell (p:=⟨s+1,2,none⟩) (by show s<=s+1;omega) (.int .i64 (c:Int))
   generalize (((W2.setCell ⟨s+1,0,none⟩ (.int .i64 (a:Int))).setCell ⟨s+1,1,none⟩ (.int .i64 (b:Int))).setCell ⟨s+1,2,none⟩ (.int .i64 (c:Int)))=W3 at *
   have hkD:Blk W3.drew (s+1) 57 #[.int .i64 (a:Int),.int .i64 (b:Int),.int .i64 (c:Int)]:=hkR
   have q0:=hkD.cell 0
   have q1:=hkD.cell 1
   have q2:=hkD.cell 2
   simp only [gA,gB,gC] at q0 q1 q2
   try simp only [Exit.inBlock,Exit.then]
   refine bodyPost_ret (v:=.tuple #[.agg #[.int .i64 (a:Int),.int .i64 (b:Int),.int .i64 (c:Int)],.bool false]) (by simp [results,Tryz.results23,go_sem,q0,q1,q2]) rfl ⟨rfl,below_drwR hbR⟩
end Go.Proofs.YtpmfdlghckfgiaaGreat
set_option linter.unusedVariables false
set_option maxRecDepth 100000
set_option maxHeartbeats 16000000
namespace Go.Proofs.YtpmfdlghckfgiaaGreat
open Go.RowKit Go.Shelf
attribute [local go_sem] Oper.semAt_some
theorem below_drw {B:Nat} {a b:World} (h:Below B a b):Below B a b.drew:=⟨h.os,h.tape,h.output,h.size,h.block⟩
def LArg (pre:List FV) (L:List SRow) (j:Nat) (xs:Array Value) (W:World):Prop:=∃ f,pre[j]? = some f/\xs=#[.agg (fvC f).toArray,specO (ownR L f.num f.w)]
theorem leach_in (m:Nat) (A B:Option Addr) (n c k d:Nat) (w:World):CallsIn Fence.wide m Tryz.prog 48 #[.slice A n c,.slice B k d] w fun e w'=>e=.returned (.func (.func 68) #[] #[.pointer (some ⟨w.heap.size,0,none⟩),.pointer (some ⟨w.heap.size+1,0,none⟩)])/\w'=(w.alloc (.cells #[.slice A n c] 53)).alloc (.cells #[.slice B k d] 51):=by
 refine callsIn_of_wp Tryz.func48 rfl trivial ?_ rfl
 simp only [Tryz.ntmps48,List.size_toArray,List.length_cons,List.length_nil,Nat.reduceAdd,Nat.reduceSub,Array.replicate_succ,Array.replicate_zero,List.push_toArray,List.append_toArray,List.nil_append,List.cons_append]
 gi_wp2
 go_ret
 exact ⟨rfl,rfl⟩
theorem leach1_in (m:Nat) (hm:4<=m) (pre:List FV) (L:List SRow) (n nL:Nat) (A AL:Option Addr) (c cL:Nat) (l Bl Bo B0:Nat) (hn:pre.length=n) (hnL:L.length=nL) (hl:nL<=1000) (J:Nat->Nat->World->Prop) (Jx:Nat->World->Prop) (W:World) (hB0:W.heap.size=B0)
  (hJc:∀ b j W,J b j W->Blk W Bl 53 #[.slice A n c]/\Blk W Bo 51 #[.slice AL nL cL]/\SlN W A n c 5 (pre.flatMap fvC)/\SlN W AL nL cL 3 (L.flatMap specC)/\B0<=W.heap.size) (h0:∀ b W',B0<=b->Below B0 W W'->J b 0 W') (hJn:∀ b j W W',B0<=b->J b j W->Chg (fun q=>B0<=q/\q < b) W W'->J b j W')
  (hY:∀ b j W xs,j < n->B0<=b->b<=W.heap.size->J b j W->LArg pre L j xs W->YieldAt Fence.wide (m - 1) Tryz.prog l xs W fun e W'=>(e=.returned (.bool true)/\J b (j+1) W'/\KBl B0 b W W'/\b<=W'.heap.size)\/(e=.returned (.bool false)/\Jx b W'/\KBl B0 b W W'/\b<=W'.heap.size)) :
  CallsIn Fence.wide m Tryz.prog 68 #[.func (.yield l) #[] #[],.pointer (some ⟨Bl,0,none⟩),.pointer (some ⟨Bo,0,none⟩)] W fun e W'=>(∃ v,e=.returned v)/\∃ b,B0<=b/\(J b n W'\/Jx b W'):=by
 have h1:1<=m:=by omega
 have hj0:=h0 B0 W (Nat.le_refl _) ⟨rfl,rfl,rfl,Nat.le_refl _,fun _ _=>rfl⟩
 obtain ⟨hbl,-,-,-,-⟩:=hJc _ _ _ hj0
 have c0:=hbl.cell 0
 simp only [gA,gB] at c0
 have hblt:=hbl.lt
 have hncap:=(hJc _ _ _ hj0).2.2.1.cap
 have hnsm:=(hJc _ _ _ hj0).2.2.1.small
 have HN:=hid hn
 have HNL:=hid hnL
 have HY:=hid hY
 have HJC:=hid hJc
 have HJN:=hid hJn
 have HJ0:=hid hj0
 have HZ:=hid hB0
 clear hn hnL hY hJc hJn hj0 h0 hB0 hbl
 refine callsIn_of_wp Tryz.func68 rfl trivial ?_ rfl
 simp only [Tryz.ntmps68,List.size_toArray,List.length_cons,List.length_nil,Nat.reduceAdd,Nat.reduceSub,Array.replicate_succ,Array.replicate_zero,List.push_toArray,List.append_toArray,List.nil_append,List.cons_append]
 gi_wp2
 gi_loopw [5,8] (fun _ i wr=>∃ j:Nat,j<=n/\i=.int .i64 (j:Int)/\J B0 j wr) (fun _ i _=>n - (intOf i).toNat)
 case atStart=>exact ⟨0,by omega,rfl,HJ0.out⟩
 case round =>
  obtain ⟨j,hj,rfl,hjw⟩:=hrel
  by_cases hlt:j < n
  ·have hjl:j < pre.length:=by have:=HN.out;omega
   have hfd:(wr.alloc (.cells (fvC pre[j]).toArray 61)).heap.size=wr.heap.size+1:=World.size_alloc ..
   have hjc:=HJC.out _ _ _ hjw
   have hca:Chg (fun _=>False) wr (wr.alloc (.cells (fvC pre[j]).toArray 61)):=(Chg.refl _ wr).alloc _
   have hja:=HJN.out B0 j wr _ (Nat.le_refl _) hjw (hca.mono fun _ _ h=>h.elim)
   have hn0:(pre.flatMap fvC)[j * 5+0]? = _:=flatMap_get fvC 5 pre j 0 hjl (fun _ _=>rfl) (by omega)
   have hn1:(pre.flatMap fvC)[j * 5+1]? = _:=flatMap_get fvC 5 pre j 1 hjl (fun _ _=>rfl) (by omega)
   have hn2:(pre.flatMap fvC)[j * 5+2]? = _:=flatMap_get fvC 5 pre j 2 hjl (fun _ _=>rfl) (by omega)
   have hn3:(pre.flatMap fvC)[j * 5+3]? = _:=flatMap_get fvC 5 pre j 3 hjl (fun _ _=>rfl) (by omega)
   have hn4:(pre.flatMap fvC)[j * 5+4]? = _:=flatMap_get fvC 5 pre j 4 hjl (fun _ _=>rfl) (by omega)
   have hsl:=hjc.2.2.1
   obtain ⟨q,off,hA,hqw,t0⟩:=hsl.rd _ _ hn0
   subst hA
   have t1:=hsl.rd.addr _ _ hn1
   have t2:=hsl.rd.addr _ _ hn2
   have t3:=hsl.rd.addr _ _ hn3
   have t4:=hsl.rd.addr _ _ hn4
   rw [addr_add] at t1 t2 t3 t4
   simp only [Nat.add_zero,<-Nat.add_assoc] at t0 t1 t2 t3 t4
   have hji:(j:Int) < (n:Int):=by omega
   have hj0:(0:Int)<=(j:Int):=by omega
   have hget:pre[j]? = some pre[j]:=List.getElem?_eq_getElem hjl
   have hjca:=HJC.out _ _ _ hja
   have hjca':True/\B0<=wr.heap.size:=⟨trivial,(HJC.out _ _ _ hjw).2.2.2.2⟩
   have hBoA:=hjca.2.1
   have d0:=hBoA.cell 0
   simp only [gA,gB] at d0
   have hBol:=hBoA.lt
   have hks:=Blk.new wr 61 (fvC pre[j]).toArray
   have how:=fun W' (hW:Below (wr.alloc (.cells (fvC pre[j]).toArray 61)).heap.size (wr.alloc (.cells (fvC pre[j]).toArray 61)) W')=>lowner_any L nL AL cL pre[j].num pre[j].w pre[j].n pre[j].s.A pre[j].s.xs.length pre[j].s.c pre[j].at_ W' HNL.out hl (hjca.2.2.2.1.below hW)
   generalize pre[j]=f at *
   obtain ⟨fnum,fw,fn,⟨fA,fc,fxs⟩,fat⟩:=f
   simp only [fvC] at t0 t1 t2 t3 t4 hks how hja hca hjca hBoA d0 hBol hfd
   have HGET:=hid hget
   have HOW:=hid how
   have HJA:=hid hja
   have HCA:=hid hca
   clear hn0 hn1 hn2 hn3 hn4 hsl hjc hget how hja hca hjca hjw
   have e0:=hks.cell 0
   have e1:=hks.cell 1
   have e2:=hks.cell 2
   have e3:=hks.cell 3
   have e4:=hks.cell 4
   have hkl:=hks.lt
   simp only [gA,gB,gC] at e0 e1 e2 e3 e4
   clear hks hBoA
   gi_wp2
   have hbwa:B0<=wr.heap.size:=by have:=hjca'.2;omega
   generalize hwa:(wr.alloc (.cells [Value.int .i64 fnum,.int .u8 fw,.int .u64 (fn:Int),.slice fA fxs.length fc,.int .i64 fat].toArray 61))=wa at *
   have hfol:Tryz.prog.follows .mixedOrders=true:=by kernel_rfl
   gi_region_with_o (first | (refine ⟨trivial,?_⟩;gi_at_call 69;refine ((callsIn_wide (n:=m - 1)).2 (HOW.out _ (by first | exact Below.refl _ _ | exact below_drw (Below.refl _ _) | exact bw_d (Below.refl _ _) _))).mono ?_;rintro e w2 ⟨rfl,hb2⟩;have hbq:Below wa.heap.size wa w2:=(by first | exact hb2 | exact (below_drw (Below.refl _ wa)).trans hb2);have e0':=(hbq.cell (p:=⟨wr.heap.size,0,none⟩) hkl).trans e0;have e1':=(hbq.cell (p:=⟨wr.heap.size,1,none⟩) hkl).trans e1;have e2':=(hbq.cell (p:=⟨wr.heap.size,2,none⟩) hkl).trans e2;have e3':=(hbq.cell (p:=⟨wr.heap.size,3,none⟩) hkl).trans e3;have e4':=(hbq.cell (p:=⟨wr.heap.size,4,none⟩) hkl).trans e4;have hkl':=Nat.lt_of_lt_of_le hkl hbq.size;have hj2:=HJN.out B0 j wa w2 (Nat.le_refl _) HJA.out (Chg.of_new hbq);obtain ⟨fnx,tmps,assign,body,hy,hR⟩:=HY.out B0 j w2 #[.agg #[.int .i64 fnum,.int .u8 fw,.int .u64 (fn:Int),.slice fA fxs.length fc,.int .i64 fat],specO (ownR L fnum fw)] hlt (Nat.le_refl _) (by have:=hbq.size;omega) hj2 ⟨_,HGET.out,rfl⟩;have HR:=hid hR;clear hR hj2 hbq hb2) | (refine HR.out.mono ?_;rintro e w6 hw6;obtain ⟨bb,rfl,hw7⟩:∃ bb,e=.returned (.bool bb)/\((bb=true/\J B0 (j+1) w6)\/(bb=false/\Jx B0 w6)):=(by rcases hw6 with ⟨h1,h2,-⟩ | ⟨h1,h2,-⟩;exact ⟨true,h1,.inl ⟨rfl,h2⟩⟩;exact ⟨false,h1,.inr ⟨rfl,h2⟩⟩);clear hw6))
   all_goals
    rcases hw7 with ⟨rfl,hj6⟩ | ⟨rfl,hx6⟩
    ·have HJ6:=hid hj6
     clear hj6
     gi_wp2
     go_roundw
     case rel=>exact ⟨j+1,by omega,by go_num,HJ6.out⟩
     case measure=>simp [intOf];omega
    ·have HX6:=hid hx6
     clear hx6
     gi_wp2
     first | exact bodyPost_ret (results_none rfl _ _ _) rfl ⟨⟨_,rfl⟩,B0,Nat.le_refl _,.inr HX6.out⟩ | exact bodyPost_end (results_none rfl _ _ _) rfl ⟨⟨_,rfl⟩,B0,Nat.le_refl _,.inr HX6.out⟩ | exact ⟨⟨_,rfl⟩,B0,Nat.le_refl _,.inr HX6.out⟩ | trace_state
  ·obtain rfl:j=n:=by omega
   have HJ6:=hid hjw
   clear hjw
   gi_wp2
   first | exact bodyPost_ret (results_none rfl _ _ _) rfl ⟨⟨_,rfl⟩,B0,Nat.le_refl _,.inl HJ6.out⟩ | exact bodyPost_end (results_none rfl _ _ _) rfl ⟨⟨_,rfl⟩,B0,Nat.le_refl _,.inl HJ6.out⟩ | exact ⟨⟨_,rfl⟩,B0,Nat.le_refl _,.inl HJ6.out⟩ | trace_state
end Go.Proofs.YtpmfdlghckfgiaaGreat
set_option linter.unusedVariables false
set_option maxRecDepth 100000
set_option maxHeartbeats 16000000
namespace Go.Proofs.YtpmfdlghckfgiaaGreat
open Go.RowKit
theorem setM_k {m:MV} {t i:Int} {n:Nat} {s:ByteArray} (he:setE m t i s=0):(setM m t i n s).k=m.k:=by
 unfold setM
 rw [he,if_neg (by simp)]
 split
 ·rfl
 ·split <;> rfl
theorem setM_num {m:MV} {t i:Int} {n:Nat} {s:ByteArray} (he:setE m t i s=0) (j:Nat) (hj:j<=5):(setM m t i n s).num (j:Int)=if t<=6/\i=(j:Int) then numV t n else m.num (j:Int):=by
 have hj:j=0\/j=1\/j=2\/j=3\/j=4\/j=5:=by omega
 unfold setM
 rw [he,if_neg (by simp)]
 by_cases h6:t<=6
 ·rw [if_pos h6]
  rcases hj with rfl | rfl | rfl | rfl | rfl | rfl <;> simp [MV.setN,MV.num,h6]
 ·have hc:¬ (t<=6/\i=((j:Nat):Int)):=by omega
  rw [if_neg h6]
  split
  ·try rw [if_neg hc]
   rcases hj with rfl | rfl | rfl | rfl | rfl | rfl <;> simp [MV.setS,MV.num]
  ·try rw [if_neg hc]
   rcases hj with rfl | rfl | rfl | rfl | rfl | rfl <;> rfl
theorem setM_text {m:MV} {t i:Int} {n:Nat} {s:ByteArray} (he:setE m t i s=0) (j:Nat) (hj:j<=1):(setM m t i n s).text (j:Int)=if (7<=t/\t<=9)/\i=(j:Int) then s else m.text (j:Int):=by
 have hj:j=0\/j=1:=by omega
 unfold setM
 rw [he,if_neg (by simp)]
 by_cases h6:t<=6
 ·rw [if_pos h6,if_neg (by omega)]
  rcases hj with rfl | rfl <;> simp [MV.setN,MV.text]
 ·rw [if_neg h6]
  by_cases h9:t<=9
  ·rw [if_pos h9]
   rcases hj with rfl | rfl <;> simp [MV.setS,MV.text,show 7<=t by omega,h9]
  ·rw [if_neg h9,if_neg (by omega)]
   rcases hj with rfl | rfl <;> rfl
theorem setM_l {m:MV} {t i:Int} {n:Nat} {s:ByteArray} (he:setE m t i s=0):(setM m t i n s).l=if 10<=t then m.l++[s] else m.l:=by
 unfold setM
 rw [he,if_neg (by simp)]
 by_cases h6:t<=6
 ·rw [if_pos h6,if_neg (by omega)];rfl
 ·rw [if_neg h6]
  by_cases h9:t<=9
  ·rw [if_pos h9,if_neg (by omega)];rfl
  ·rw [if_neg h9,if_pos (by omega)]
theorem numV_le {t:Int} {n:Nat} (h:n<=18446744073709551615):numV t n<=18446744073709551615:=by
 unfold numV zagU
 split
 ·omega
 ·split
  ·split <;> omega
  ·split
   ·split <;> omega
   ·exact h
theorem txtE_app (most:Int):∀ (l:List ByteArray) (s:ByteArray),txtE most l=0->chk s most=0->txtE most (l++[s])=0
 | [],s,_,h=>by simp [txtE,h]
 | x :: l,s,h,hs=>by
  rw [txtE] at h
  rw [List.cons_append,txtE]
  by_cases c:chk x most=0
  ·rw [if_pos c] at h ⊢;exact txtE_app most l s h hs
  ·rw [if_neg c] at h;exact absurd h c
theorem txtE_of (most:Int):∀ (l:List ByteArray),(∀ s ∈ l,chk s most=0)->txtE most l=0
 | [],_=>rfl
 | x :: l,h=>by rw [txtE,if_pos (h x (List.mem_cons_self ..)),txtE_of most l fun s hs=>h s (List.mem_cons_of_mem _ hs)]
structure Good (k:Nat) (v:Int) (m:MV):Prop where
 hk:m.k=k
 f:∀ r ∈ ofL (k:Int) v,fldE m r=0
 n:∀ j:Nat,j<=5->mkN (ofL (k:Int) v) j=false->m.num (j:Int)=0
 s:∀ j:Nat,j<=1->mkS (ofL (k:Int) v) j=false->m.text (j:Int)=⟨#[]⟩
 l:mkL (ofL (k:Int) v)=false->m.l=[]
 len:m.l.length<=64
 hn:∀ i,m.num i<=18446744073709551615
theorem ZM_num (k:Nat) (i:Int):({ ZM with k:=k }:MV).num i=0:=by
 unfold MV.num ZM;split <;> rfl
theorem ZM_text (k:Nat) (i:Int):({ ZM with k:=k }:MV).text i=⟨#[]⟩:=by
 unfold MV.text ZM;split <;> rfl
theorem good_zero (k:Nat) (v:Int):Good k v { ZM with k:=k }:=by
 refine ⟨rfl,fun r hr=>?_,fun j _ _=>ZM_num k _,fun j _ _=>ZM_text k _,fun _=>rfl,by simp [ZM],fun i=>by rw [ZM_num];omega⟩
 have hk:=row_num (ofL_mem _ _ hr)
 unfold fldE
 rw [if_pos]
 unfold dflB
 rw [ZM_num,ZM_text]
 split
 ·simp
 ·split
  ·simp
  ·split
   ·simp [ZM]
   ·rfl
theorem good_set {k:Nat} {v:Int} {m:MV} (h:Good k v m) {r:SRow} (hr:r ∈ ofL (k:Int) v) {n:Nat} {s:ByteArray} (hn:n<=18446744073709551615) (h5:r.typ=5->n<=4294967295) (he:setE m (r.typ:Int) (r.slot:Int) s=0):Good k v (setM m (r.typ:Int) (r.slot:Int) n s):=by
 have hR:=ofL_mem _ _ hr
 have hk:=row_num hR
 have hs:=row_slot hR
 have hnum:=setM_num (n:=n) he
 have htext:=setM_text (n:=n) he
 have hl:=setM_l (n:=n) he
 have hlen:(setM m (r.typ:Int) (r.slot:Int) n s).l.length<=64:=setM_len m _ _ n s h.len
 refine ⟨by rw [setM_k he];exact h.hk,fun q hq=>?_,fun j hj hm=>?_,fun j hj hm=>?_,fun hm=>?_,hlen,fun i=>?_⟩
 ·by_cases hqr:q=r
  ·subst hqr
   unfold fldE
   split
   ·rfl
   ·unfold wrongE
    have e1:=hnum q.slot hs.1
    have hE:=he
    unfold setE at hE
    by_cases t6:q.typ<=6
    ·rw [if_pos ⟨by omega,rfl⟩] at e1
     rw [e1]
     by_cases c1:((q.typ:Nat):Int)=1\/((q.typ:Nat):Int)=5
     ·rw [if_pos c1,if_neg]
      unfold numV
      rcases c1 with c1 | c1
      ·rw [if_pos c1];omega
      ·rw [if_neg (by omega),if_neg (by omega),if_neg (by omega)]
       have:=h5 (by omega);omega
     ·rw [if_neg c1]
      by_cases c4:((q.typ:Nat):Int)=4
      ·rw [if_pos c4,if_neg]
       unfold numV
       rw [if_neg (by omega),if_pos c4]
       split <;> omega
      ·rw [if_neg c4,if_neg (by omega),if_neg (by omega)]
    ·by_cases t9:q.typ<=9
     ·rw [plB_text (by omega) t9 (hs.2 (by omega) t9),if_neg (by simp),if_neg (by omega),if_pos (by omega)] at hE
      have e2:=htext q.slot (hs.2 (by omega) t9)
      rw [if_pos ⟨by omega,rfl⟩] at e2
      rw [if_neg (by omega),if_neg (by omega),if_pos (by omega),e2]
      exact hE
     ·have h10:((q.typ:Nat):Int)=10:=by omega
      rw [h10,plB_list,if_neg (by simp),if_neg (by decide),if_neg (by decide)] at hE
      rw [h10,if_neg (by decide),if_neg (by decide),if_neg (by decide),if_pos rfl]
      by_cases c64:64<=m.l.length
      ·rw [if_pos c64] at hE;simp at hE
      ·rw [if_neg c64] at hE
       rw [h10] at hl
       rw [if_pos (by decide)] at hl
       unfold lstE
       rw [h10] at hlen
       rw [if_neg (by omega),hl]
       have hx:=fldE_list (by omega:q.typ=10) (h.f q hq)
       exact txtE_app 64 m.l s (txtE_of 64 _ hx.2) hE
  ·have hap:=(rows_apart k v hq hr hqr).2
   have hqR:=ofL_mem _ _ hq
   have hqk:=row_num hqR
   have hqs:=row_slot hqR
   rw [<-h.f q hq]
   unfold sortN at hap
   refine fldE_dep ⟨by omega,by omega⟩ (fun g6=>?_) (fun g7 g9=>?_) (fun g10=>?_)
   ·rw [hnum q.slot hqs.1,if_neg]
    rintro ⟨a1,a2⟩
    apply hap
    rw [if_pos (by omega),if_pos a1]
    exact ⟨rfl,by omega⟩
   ·rw [htext q.slot (hqs.2 g7 g9),if_neg]
    rintro ⟨a1,a2⟩
    apply hap
    rw [if_neg (by omega),if_pos (by omega),if_neg (by omega),if_pos (by omega)]
    exact ⟨rfl,by omega⟩
   ·rw [hl,if_neg]
    intro a1
    have:=lists_uni hqR hR (by have:=ofL_kindN hq;have:=ofL_kindN hr;omega) g10 (by omega)
    exact hqr this
 ·rw [hnum j hj,if_neg]
  ·exact h.n j hj hm
  ·rintro ⟨a1,a2⟩
   unfold mkN at hm
   rw [List.any_eq_false] at hm
   exact hm r hr (by simp only [decide_eq_true_eq];omega)
 ·rw [htext j hj,if_neg]
  ·exact h.s j hj hm
  ·rintro ⟨a1,a2⟩
   unfold mkS at hm
   rw [List.any_eq_false] at hm
   exact hm r hr (by simp only [decide_eq_true_eq];omega)
 ·rw [hl,if_neg]
  ·exact h.l hm
  ·intro a1
   unfold mkL at hm
   rw [List.any_eq_false] at hm
   exact hm r hr (by simp only [decide_eq_true_eq];omega)
 ·rcases num_top (setM m (r.typ:Int) (r.slot:Int) n s) i with ⟨j,hj,rfl⟩ | h0
  ·rw [hnum j hj]
   split
   ·exact numV_le hn
   ·exact h.hn _
  ·rw [h0];omega
theorem chkL_zero {m:MV}:∀ (L:List SRow),(∀ r ∈ L,fldE m r=0)->chkL m L=(0,0)
 | [],_=>rfl
 | r :: L,h=>by rw [chkL,if_pos (h r (List.mem_cons_self ..)),chkL_zero L fun q hq=>h q (List.mem_cons_of_mem _ hq)]
theorem good_chk {k:Nat} {v:Int} {m:MV} (h:Good k v m) (hL:(ofL (k:Int) v).length ≠ 0):chkV m (ofL (k:Int) v)=(0,0):=by
 unfold chkV
 rw [if_neg hL,chkL_zero _ h.f,if_neg (by simp),if_pos]
 rw [sameB_iff]
 have ha:∀ j:Nat,j<=5->m.num (j:Int)=(keptM (ofL (k:Int) v) m).num (j:Int):=fun j hj=>by
  rw [kept_num _ _ _ hj]
  cases hm:mkN (ofL (k:Int) v) j with
  | true=>simp
  | false=>simpa using h.n j hj hm
 have hb:∀ j:Nat,j<=1->m.text (j:Int)=(keptM (ofL (k:Int) v) m).text (j:Int):=fun j hj=>by
  rw [kept_text _ _ _ hj]
  cases hm:mkS (ofL (k:Int) v) j with
  | true=>simp
  | false=>simpa using h.s j hj hm
 refine ⟨rfl,⟨ha 0 (by omega),ha 1 (by omega),ha 2 (by omega),ha 3 (by omega),ha 4 (by omega),ha 5 (by omega)⟩,⟨hb 0 (by omega),hb 1 (by omega)⟩,?_⟩
 rw [kept_l]
 cases hm:mkL (ofL (k:Int) v) with
 | true=>simp
 | false=>simpa using h.l hm
def RdOk (f:RF × Nat):Prop:=f.1.n<=18446744073709551615/\(f.1.w=5->f.1.n<=4294967295)
theorem good_dec {k:Nat} {v:Int}:∀ (l:List (RF × Nat)) (m:MV),Good k v m->(∀ f ∈ l,RdOk f)->(decF (ofL (k:Int) v) m l).2.2.1=0->Good k v (decF (ofL (k:Int) v) m l).1
 | [],m,h,_,_=>h
 | f :: l,m,h,hl,he=>by
  cases ho:ownR (ofL (k:Int) v) f.1.num f.1.w with
  | none =>
   rw [decF_none ho] at he ⊢
   exact good_dec l m h (fun g hg=>hl g (List.mem_cons_of_mem _ hg)) he
  | some r =>
   by_cases hs:setE m (r.typ:Int) (r.slot:Int) (rfS f)=0
   ·rw [decF_ok ho hs] at he ⊢
    have hm:=own_mem ho
    have hf:=hl f (List.mem_cons_self ..)
    refine good_dec l _ (good_set h hm.1 hf.1 (fun h5=>hf.2 ?_) hs) (fun g hg=>hl g (List.mem_cons_of_mem _ hg)) he
    rw [<-hm.2.2,h5];rfl
   ·rw [decF_bad ho hs] at he
    exact absurd he hs
end Go.Proofs.YtpmfdlghckfgiaaGreat
