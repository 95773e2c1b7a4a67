/- The document's Fields. · schema.Word. · schema.Kind. · What must b · skip.own, and the functions of Of and Wit · The document's Bytes, Bare and Put of fie -/
import Derived.Test.YtpmfdlghckfgiaaGreatRefOne
import Derived.Test.YtpmfdlghckfgiaaGreatSk2
import Derived.Test.YtpmfdlghckfgiaaGreatG0
import Derived.Test.YtpmfdlghckfgiaaGreatM2
import Derived.Test.YtpmfdlghckfgiaaGreatSc2
import Derived.Test.YtpmfdlghckfgiaaGreatV2
import Derived.Test.YtpmfdlghckfgiaaGreatG3
import Derived.Deep.RegionHeld3
import Derived.Deep.AppendLies
import Derived.OwnWalk
import Derived.Laws.Pointers
import Derived.Deep.QuietTactic
import Derived.BigQuiet
import Derived.Test.YtpmfdlghckfgiaaGreatM4
import Derived.Test.YtpmfdlghckfgiaaGreatM5
set_option linter.unusedVariables false
set_option maxRecDepth 100000
set_option maxHeartbeats 16000000
namespace Go.Proofs.YtpmfdlghckfgiaaGreat
open Go.RowKit
theorem FarS.or_new {A:Option Addr} {c n:Nat} {xs:List UInt8} {W:World} {S T:Nat->Prop} (h:FarS A n S) (hs:Sl W A c (xs.map bv)) (hn:xs.length=n) (hT:∀ k,T k->S k\/W.heap.size<=k):FarS A n T:=by
 intro hp b off he hT'
 rcases hT b hT' with h1 | h1
 ·exact h hp b off he h1
 ·obtain ⟨b2,o2,e2,hlt,_⟩:=hs.rd 0 (bv (xs[0]'(by omega))) (by simp [List.getElem?_eq_getElem (show 0 < xs.length by omega)])
  rw [he] at e2
  injection e2 with e2
  injection e2 with e3 e4
  omega
theorem rflds_any (bs:List UInt8) (n:Nat) (A:Option Addr) (c:Nat) (w:World) (hn:bs.length=n) (hl:n<=100000) (hs:Sl w A c (bs.map bv)) :
  Calls Tryz.prog 22 #[.slice A n c] w fun e W'=>(((flds bs n 0).2.1=0/\∃ v pre,e=.returned (.tuple #[v,.agg #[.int .i64 0,.int .i64 0]])/\W'.ownsRow w.heap.size 61 5 v pre.length (pre.flatMap fvC)/\fvAll pre (flds bs n 0).1/\∀ f ∈ pre,Sl W' f.s.A f.s.c (f.s.xs.map bv)) \/
   ((flds bs n 0).2.1 ≠ 0/\e=.returned (.tuple #[.slice none 0 0,.agg #[.int .i64 ((flds bs n 0).2.1:Nat),.int .i64 ((flds bs n 0).2.2:Nat)]])))/\Below w.heap.size w W':=by
 obtain ⟨i5,hi5,hi50,hi51,hi52⟩:=info_parts Tryz.infoField
 have hcap:=hs.cap
 have hsm:=hs.small
 rw [List.length_map,hn] at hcap
 obtain ⟨R,hR⟩:∃ R:Ending->World->Prop,R=fun e W'=>(((flds bs n 0).2.1=0/\∃ v pre,e=.returned (.tuple #[v,.agg #[.int .i64 0,.int .i64 0]])/\W'.ownsRow w.heap.size 61 5 v pre.length (pre.flatMap fvC)/\fvAll pre (flds bs n 0).1/\∀ f ∈ pre,Sl W' f.s.A f.s.c (f.s.xs.map bv)) \/
   ((flds bs n 0).2.1 ≠ 0/\e=.returned (.tuple #[.slice none 0 0,.agg #[.int .i64 ((flds bs n 0).2.1:Nat),.int .i64 ((flds bs n 0).2.2:Nat)]])))/\Below w.heap.size w W':=⟨_,rfl⟩
 rw [<-hR]
 have HR:=hid hR
 have HS:=hid hs
 have HN:=hid hn
 clear hs hn hR
 go_enter Tryz.func22,Tryz.ntmps22
 go_wp2_with fail
 obtain ⟨s,hsz⟩:∃ s,w.heap.size=s:=⟨_,rfl⟩
 obtain ⟨Wa,hWa⟩:∃ Wa,(w.alloc (.cells #[.int .i64 0,.int .i64 0] 32)).alloc (.cells #[.slice A n c,.int .i64 0] 80)=Wa:=⟨_,rfl⟩
 have hba:Below s w Wa:=by rw [<-hWa,<-hsz];exact bw_a (bw_a (Below.refl _ w) _) _
 have hk0:Blk Wa s 32 #[.int .i64 0,.int .i64 0]:=by rw [<-hWa,<-hsz];exact (Blk.new w _ _).alloc _
 have hk1:Blk Wa (s+1) 80 #[.slice A n c,.int .i64 0]:=by
  have h:=Blk.new (w.alloc (.cells #[.int .i64 0,.int .i64 0] 32)) 80 #[.slice A n c,.int .i64 0]
  rwa [World.size_alloc,hsz,hWa] at h
 have hr0:Rin 80 Wa (s+1) A c bs 0:=by
  refine ⟨by rw [HN.out];exact hk1,HS.out.below (by rw [hsz];exact hba),Nat.zero_le _,far_new HS.out (by omega)⟩
 rw [hWa,hsz]
 generalize hq:s+1=q at *
 go_loopw [5] (fun v wr=>∃ (p fu:Nat) (pre:List FV),p<=n/\pre.length<=p/\n - p<=fu/\Rin 80 wr q A c bs p/\wr.ownsRow s 61 5 v pre.length (pre.flatMap fvC)/\(∀ f ∈ pre,Sl wr f.s.A f.s.c (f.s.xs.map bv)/\FarS f.s.A f.s.xs.length (fun k=>k=s\/k=q\/v.ownBlock=some k)) /\
   Blk wr s 32 #[.int .i64 0,.int .i64 0]/\Below s w wr/\∃ rs,fvAll pre rs/\flds bs n 0=(rs++(flds bs fu p).1,(flds bs fu p).2.1,(flds bs fu p).2.2)) (fun _ wr=>n - (intOf ((wr.cell? ⟨q,1,none⟩).getD undef)).toNat)
 case atStart=>exact ⟨0,n,[],by omega,by simp,by omega,hr0,World.ownsRow_nil _ _ _ _,fun f hf=>by simp at hf,hk0,hba,[],trivial,by simp⟩
 case round =>
  obtain ⟨p,fu,pre,hp,hpl,hf,hr,ho,hsl,hk,hB,rs,hrs,hfl⟩:=hrel
  have hqw:=hr.blk.lt
  have hkq:=hr.blk
  have hc1:wr.cell? ⟨q,1,none⟩=some (.int .i64 (p:Int)):=by simpa using hr.blk.cell 1
  obtain ⟨vA,vc,rfl⟩:∃ vA vc,u5=.slice vA pre.length vc:=by
   rcases ho.2 with ⟨rfl,h⟩ | ⟨g,cap,cur,rfl,_⟩
   ·exact ⟨none,0,by rw [h]⟩
   ·exact ⟨_,_,rfl⟩
  by_cases hlt:p < n
  ·have hone:=rone_any wr q A c bs p (by rw [HN.out];exact hl) hr
   have hof:=rOne_facts bs p (by rw [HN.out];exact hp)
   have hst:=fun he=>flds_step bs fu p (by rw [HN.out];exact hlt) (by rw [HN.out];exact hf) he
   have hbd:=fun he=>flds_bad bs fu p (by rw [HN.out];exact hlt) (by rw [HN.out];exact hf) he
   generalize rOne bs p=r at *
   obtain ⟨rnum,rw',rn,rxs,re,rp,rnx⟩:=r
   simp only at hone hof hst hbd
   generalize hxl:rxs.length=xl at *
   have HONE:=hid hone
   have HOF:=hid hof
   have HST:=hid hst
   have HBD:=hid hbd
   have HO:=hid ho
   have HSL:=hid hsl
   have HK:=hid hk
   have HB:=hid hB
   have HRS:=hid hrs
   have HFL:=hid hfl
   have HXL:=hid hxl
   have HNQ:=hid (own_blk_ne ho hkq (by decide))
   have HNS:=hid (own_blk_ne ho hk (by decide))
   have HC1:=hid hc1
   clear hone hof hst hbd hr ho hsl hk hB hrs hfl hxl hk0 hk1 hr0 hba hWa
   by_cases he:re=0
   ·subst he
    go_wp2_with fail
    refine HONE.out.mono ?_
    rintro e w1 ⟨(⟨-,A3,c3,rfl,hs3,hf3⟩ | ⟨h,-⟩),hr1,ho1⟩
    rotate_left
    ·exact absurd rfl h
    have hch1:Chg (fun k=>k=q) wr w1:=Chg.of_only ho1 rfl
    have hown1:=own_chgS HO.out hch1 (fun g hg hk=>own_blk_ne HO.out hkq (by decide) (hk ▸ hg))
    have hl1:=hr1.blk.lt
    have hsq:s < q:=by omega
    have hk1:=hch1.blk HK.out (by omega)
    have hsl1:∀ f ∈ pre,Sl w1 f.s.A f.s.c (f.s.xs.map bv):=fun f hf=>hch1.sl (HSL.out f hf).1 (n:=f.s.xs.length) ((HSL.out f hf).2.imp fun k hk=>.inr (.inl hk)) (by simp)
    have hfarN:FarS A3 xl (fun k=>k=s\/k=q\/(Value.slice vA pre.length vc).ownBlock=some k):=fun hp b off he hk=>by
     rcases hk with hk | hk | hk
     ·exact hf3 s HK.out.lt hp b off he hk
     ·exact hf3 q hqw hp b off he hk
     ·exact hf3 b (HO.out.lt b hk).2 hp b off he rfl
    obtain ⟨z,hz⟩:∃ z,w1.heap.size=z:=⟨_,rfl⟩
    have hzs:q < z:=by omega
    have hrd:Rd (((w1.alloc (.cells #[.int .i64 rnum,.int .u8 rw',.int .u64 (rn:Int),.slice A3 xl c3,.int .i64 (p:Int)] 61)).alloc (.cells #[.int .i64 0,.int .i64 0] 32)).alloc (.cells #[.int .i64 rnum,.int .u8 rw',.int .u64 (rn:Int),.slice A3 xl c3,.int .i64 (p:Int)] 61)) (some ⟨z+1+1,0,none⟩) [.int .i64 rnum,.int .u8 rw',.int .u64 (rn:Int),.slice A3 xl c3,.int .i64 (p:Int)]:=by
     have h:=Rd.new ((w1.alloc (.cells #[.int .i64 rnum,.int .u8 rw',.int .u64 (rn:Int),.slice A3 xl c3,.int .i64 (p:Int)] 61)).alloc (.cells #[.int .i64 0,.int .i64 0] 32)) 61 #[.int .i64 rnum,.int .u8 rw',.int .u64 (rn:Int),.slice A3 xl c3,.int .i64 (p:Int)]
     rwa [World.size_alloc,World.size_alloc,hz] at h
    have hbz:=HB.out.trans (hch1.below (B:=s) (fun k hk=>by omega) (by omega))
    have HOWN:=hid (((hown1.alloc (.cells #[.int .i64 rnum,.int .u8 rw',.int .u64 (rn:Int),.slice A3 xl c3,.int .i64 (p:Int)] 61)).alloc (.cells #[.int .i64 0,.int .i64 0] 32)).alloc (.cells #[.int .i64 rnum,.int .u8 rw',.int .u64 (rn:Int),.slice A3 xl c3,.int .i64 (p:Int)] 61))
    have HRD:=hid hrd
    have HBZ:=hid hbz
    have HR1:=hid hr1
    have HK1:=hid hk1
    have HSL1:=hid hsl1
    have HFN:=hid hfarN
    have HS3:=hid hs3
    have hpre:pre.length<=100000:=by omega
    clear hrd hbz hr1 hk1 hsl1 hfarN hs3 hf3 hown1 hch1 ho1 hkq hc1
    go_wp2_with (at_builtin;refine wpList_append_new rfl _ _ 53 rfl s 61 i5 (.agg #[.int .i64 0,.int .u8 0,.int .u64 0,.slice none 0 0,.int .i64 0]) 5 56 Tryz.underlying53 hi5 hi50 hi51 hi52 rfl (by decide) _ _ _ rfl HOWN.out ⟨z+1+1,0,none⟩ 1 1 [.int .i64 rnum,.int .u8 rw',.int .u64 (rn:Int),.slice A3 xl c3,.int .i64 (p:Int)] rfl rfl HRD.out (by simp [Value.oneCell']) (by simp only [maxLen];omega) (by omega) (by simp;omega) ?_;intro v4 w4 ho4 hg4 hnew4;have HO4:=hid ho4;have HG4:=hid hg4;have HN4:=hid hnew4;clear ho4 hg4 hnew4)
    have hch4:Chg (fun k=>(Value.slice vA pre.length vc).ownBlock=some k) w1 w4:=((((Chg.refl _ w1).alloc _).alloc _).alloc _).trans (Chg.of_grown HG4.out fun g e=>e)
    have hr4:=HR1.out.chgS hch4 HNQ.out (fun hp b off he hk=>far_new HS.out (by rw [hsz];exact (HO.out.lt b hk).1) hp b off he rfl)
    have hc4:w4.cell? ⟨q,1,none⟩=some (.int .i64 (rnx:Int)):=by simpa using hr4.blk.cell 1
    have hnv:∀ k,v4.ownBlock=some k->(Value.slice vA pre.length vc).ownBlock=some k\/w1.heap.size<=k:=fun k hk=>by
     rcases HN4.out with h | h
     ·exact .inl (h ▸ hk)
     ·right;have:=h k hk;simp at this;omega
    obtain ⟨gg,hgg,hst⟩:=HST.out trivial
    obtain ⟨o1,o2,-⟩:=HOF.out.1 trivial
    rw [HN.out] at o2 hgg
    refine ⟨⟨rnx,gg,pre++[⟨rnum,rw',rn,⟨A3,c3,rxs⟩,(p:Int)⟩],o2,by rw [List.length_append,List.length_singleton];omega,hgg,hr4,?_,?_,hch4.blk HK1.out HNS.out,HBZ.out.trans (hch4.below (fun k hk=>(HO.out.lt k hk).1) (by omega)),rs++[(⟨rnum,rw',rn,rxs,0,rp,rnx⟩,p)],fvAll_snoc HRS.out ⟨rfl,rfl,rfl,rfl,rfl⟩,by rw [HFL.out,hst];simp⟩,?_⟩
    ·rw [List.length_append,List.flatMap_append]
     simpa [fvC,HXL.out] using HO4.out
    ·intro f hf
     rcases List.mem_append.1 hf with hf | hf
     ·exact ⟨hch4.sl (HSL1.out f hf) (n:=f.s.xs.length) ((HSL.out f hf).2.imp fun k hk=>.inr (.inr hk)) (by simp),(HSL.out f hf).2.or_new (HSL1.out f hf) rfl fun k hk=>by
       rcases hk with hk | hk | hk
       ·exact .inl (.inl hk)
       ·exact .inl (.inr (.inl hk))
       ·exact (hnv k hk).imp (fun h=>.inr (.inr h)) id⟩
     ·obtain rfl:=List.mem_singleton.1 hf
      refine ⟨hch4.sl HS3.out (n:=xl) (HFN.out.imp fun k hk=>.inr (.inr hk)) (by simp [HXL.out]),?_⟩
      rw [show (SlV.xs _).length=xl from HXL.out]
      exact HFN.out.or_new HS3.out HXL.out fun k hk=>by
       rcases hk with hk | hk | hk
       ·exact .inl (.inl hk)
       ·exact .inl (.inr (.inl hk))
       ·exact (hnv k hk).imp (fun h=>.inr (.inr h)) id
    ·rw [HC1.out,hc4]
     simp [intOf]
     omega
   ·have heb:(((re:Nat):Int) != 0)=true:=by simpa using he
    go_wp2_with fail
    refine HONE.out.mono ?_
    rintro e w1 ⟨(⟨h,-⟩ | ⟨-,rfl⟩),hr1,ho1⟩
    ·exact absurd h he
    have hch1:Chg (fun k=>k=q) wr w1:=Chg.of_only ho1 rfl
    have hl1:=hr1.blk.lt
    have hsq:s < q:=by omega
    have hk1:=hch1.blk HK.out (by omega)
    have hbz:=HB.out.trans (hch1.below (B:=s) (fun k hk=>by omega) (by omega))
    have d0:=hk1.cell 0
    have d1:=hk1.cell 1
    have d2:=hk1.frozen 0
    have d3:=hk1.frozen 1
    simp only [gA,gB,gC] at d0 d1
    have HK1:=hid hk1
    have HBZ:=hid hbz
    clear hch1 hk1 hbz hr1 ho1 hkq d0 d1 d2 d3 hc1
    go_wp2_with fail
    obtain ⟨W3,hW3⟩:∃ W3,(w1.alloc (.cells #[.int .i64 0,.int .u8 0,.int .u64 0,.slice none 0 0,.int .i64 0] 61)).alloc (.cells #[.int .i64 (re:Int),.int .i64 (rp:Int)] 32)=W3:=⟨_,rfl⟩
    have hb3:Below w1.heap.size w1 W3:=by rw [<-hW3];exact bw_a (bw_a (Below.refl _ w1) _) _
    have hk7:Blk W3 (w1.heap.size+1) 32 #[.int .i64 (re:Int),.int .i64 (rp:Int)]:=by
     rw [<-hW3]
     have h:=Blk.new (w1.alloc (.cells #[.int .i64 0,.int .u8 0,.int .u64 0,.slice none 0 0,.int .i64 0] 61)) 32 #[.int .i64 (re:Int),.int .i64 (rp:Int)]
     rwa [World.size_alloc] at h
    have hk3:=HK1.out.below hb3 HK1.out.lt
    have d0:W3.cell? ⟨s,0,none⟩=some (.int .i64 0):=hk3.cell 0
    have d1:W3.cell? ⟨s,1,none⟩=some (.int .i64 0):=hk3.cell 1
    have d2:=hk3.frozen 0
    have d3:=hk3.frozen 1
    have e0:W3.cell? ⟨w1.heap.size+1,0,none⟩=some (.int .i64 (re:Int)):=hk7.cell 0
    have e1:W3.cell? ⟨w1.heap.size+1,1,none⟩=some (.int .i64 (rp:Int)):=hk7.cell 1
    have hl3:=hk3.lt
    have hl7:=hk7.lt
    have hne:w1.heap.size+1 ≠ s:=by omega
    have HB3:=hid (HBZ.out.trans (hb3.mono (show s<=w1.heap.size by omega)))
    rw [hW3]
    clear hW3 hb3 hk7 hk3
    go_region
    all_goals go_wp2_with fail
    all_goals
     refine bodyPost_ret (v:=.tuple #[.slice none 0 0,.agg #[.int .i64 (re:Int),.int .i64 (rp:Int)]]) (by simp [results,Tryz.results22,go_sem,d0,d1]) rfl ?_
     rw [HR.out,HFL.out,HBD.out he]
     refine ⟨.inr ⟨he,rfl⟩,?_⟩
     rw [hsz]
     exact below_drewN ((HB3.out.setCell (p:=⟨s,0,none⟩) (Nat.le_refl _) _).setCell (p:=⟨s,1,none⟩) (Nat.le_refl _) _) 1
  ·obtain rfl:p=n:=by omega
   have hE0:=flds_end bs fu p (by rw [HN.out];omega)
   rw [hE0] at hfl
   simp only [List.append_nil] at hfl
   have d0:=hk.cell 0
   have d1:=hk.cell 1
   have d2:=hk.frozen 0
   have d3:=hk.frozen 1
   simp only [gA,gB,gC] at d0 d1
   have HO:=hid ho
   have HSL:=hid hsl
   have HK:=hid hk
   have HB:=hid hB
   have HRS:=hid hrs
   have HFL:=hid hfl
   clear ho hsl hk hB hrs hfl hkq hr
   go_wp2_with fail
   have hf:Blk ((wr.setCell ⟨s,0,none⟩ (.int .i64 0)).setCell ⟨s,1,none⟩ (.int .i64 0)) s 32 #[.int .i64 0,.int .i64 0]:=by simpa using (HK.out.set_ 0 (.int .i64 0)).set_ 1 (.int .i64 0)
   have hc:Chg (fun k=>k=s) wr ((wr.setCell ⟨s,0,none⟩ (.int .i64 0)).setCell ⟨s,1,none⟩ (.int .i64 0)):=((Chg.refl (fun k=>k=s) wr).set_ (.inl rfl) 0 (.int .i64 0)).set_ (.inl rfl) 1 (.int .i64 0)
   have hnS:=own_blk_ne HO.out HK.out (by decide)
   have f0:=hf.cell 0
   have f1:=hf.cell 1
   simp only [gA,gB,gC] at f0 f1
   generalize World.setCell (World.setCell _ _ _) _ _=W9 at *
   refine bodyPost_ret (v:=.tuple #[.slice vA pre.length vc,.agg #[.int .i64 0,.int .i64 0]]) (by simp [results,Tryz.results22,go_sem,f0,f1]) rfl ?_
   rw [HR.out,HFL.out]
   refine ⟨.inl ⟨rfl,_,pre,rfl,?_,HRS.out,fun f hf=>hc.sl (HSL.out f hf).1 (n:=f.s.xs.length) ?_ (by simp)⟩,?_⟩
   ·rw [hsz]
    exact own_chgS HO.out hc fun g hg hk=>hnS (by rw [<-hk];exact hg)
   ·exact (HSL.out f hf).2.imp fun k hk=>.inl hk
   ·rw [hsz]
    exact HB.out.trans (hc.below (fun k hk=>by omega) (by have:=HK.out.lt;omega))
end Go.Proofs.YtpmfdlghckfgiaaGreat
set_option linter.unusedVariables false
set_option maxRecDepth 100000
set_option maxHeartbeats 16000000
namespace Go.Proofs.YtpmfdlghckfgiaaGreat
open Go.RowKit
end Go.Proofs.YtpmfdlghckfgiaaGreat
namespace Go.Proofs.YtpmfdlghckfgiaaGreat
open Go.RowKit
end Go.Proofs.YtpmfdlghckfgiaaGreat
namespace Go.Proofs.YtpmfdlghckfgiaaGreat
open Go.RowKit
end Go.Proofs.YtpmfdlghckfgiaaGreat
namespace Go.Proofs.YtpmfdlghckfgiaaGreat
open Go.RowKit
def rowC (r:SRow):List Value:=[.int .i64 (r.num:Nat),.int .i64 (r.typ:Nat),.int .i64 (r.slot:Nat),.int .i64 (r.since:Nat)]
theorem sln_lit (w:World) (t:TypeId) (xs:List Value) (cs:Array Value) (n size:Nat) (h:cs.toList=xs) (hl:xs.length=n * size) (hm:n<=1000):SlN (w.alloc (.cells cs t)) (some ⟨w.heap.size,0,none⟩) n n size xs :=
  ⟨hl,Nat.le_refl _,by omega,(fun h=>by cases h),by rw [<-h];exact Rd.new w t cs⟩
def RowsR (w:World) (k:Int) (e:Ending) (w':World):Prop:=∃ A c,e=.returned (.slice A (ofK k).length c)/\SlN w' A (ofK k).length c 4 ((ofK k).flatMap rowC)/\Below w.heap.size w w'
theorem rowsR_lit (w:World) (k:Int) (n:Nat) (cs:Array Value) (t:TypeId) (hn:(ofK k).length=n) (hm:n<=1000) (hc:cs.toList=(ofK k).flatMap rowC):RowsR w k (.returned (.slice (some ⟨w.heap.size,0,none⟩) n n)) (w.alloc (.cells cs t)):=by
  subst hn
  refine ⟨_,_,rfl,sln_lit w t _ cs _ 4 hc ?_ hm,bw_a (Below.refl _ w) _⟩
  exact flatMap_length rowC 4 _ (fun _ _=>rfl)
theorem rrows_any (k:Int) (w:World) (hk0:0<=k) (hk:k<=255):Calls Tryz.prog 33 #[.int .u8 k] w (RowsR w k):=by
  have hcase:k=1\/k=2\/k=3\/k=4\/k=5\/k=6\/k=7\/k=8\/k=9\/k=10\/(k=0\/10 < k):=by omega
  rcases hcase with rfl | rfl | rfl | rfl | rfl | rfl | rfl | rfl | rfl | rfl | hk2
  · go_enter Tryz.func33,Tryz.ntmps33
    go_wp2
    go_ret
    exact rowsR_lit w 1 _ _ _ (by decide +kernel) (by omega) (by kernel_rfl)
  · go_enter Tryz.func33,Tryz.ntmps33
    go_wp2
    go_ret
    exact rowsR_lit w 2 _ _ _ (by decide +kernel) (by omega) (by kernel_rfl)
  · go_enter Tryz.func33,Tryz.ntmps33
    go_wp2
    go_ret
    exact rowsR_lit w 3 _ _ _ (by decide +kernel) (by omega) (by kernel_rfl)
  · go_enter Tryz.func33,Tryz.ntmps33
    go_wp2
    go_ret
    exact rowsR_lit w 4 _ _ _ (by decide +kernel) (by omega) (by kernel_rfl)
  · go_enter Tryz.func33,Tryz.ntmps33
    go_wp2
    go_ret
    exact rowsR_lit w 5 _ _ _ (by decide +kernel) (by omega) (by kernel_rfl)
  · go_enter Tryz.func33,Tryz.ntmps33
    go_wp2
    go_ret
    exact rowsR_lit w 6 _ _ _ (by decide +kernel) (by omega) (by kernel_rfl)
  · go_enter Tryz.func33,Tryz.ntmps33
    go_wp2
    go_ret
    exact rowsR_lit w 7 _ _ _ (by decide +kernel) (by omega) (by kernel_rfl)
  · go_enter Tryz.func33,Tryz.ntmps33
    go_wp2
    go_ret
    exact rowsR_lit w 8 _ _ _ (by decide +kernel) (by omega) (by kernel_rfl)
  · go_enter Tryz.func33,Tryz.ntmps33
    go_wp2
    go_ret
    exact rowsR_lit w 9 _ _ _ (by decide +kernel) (by omega) (by kernel_rfl)
  · go_enter Tryz.func33,Tryz.ntmps33
    go_wp2
    go_ret
    exact rowsR_lit w 10 _ _ _ (by decide +kernel) (by omega) (by kernel_rfl)
  · have hof:ofK k=[]:=by
      unfold ofK
      rw [List.filter_eq_nil_iff]
      intro r hr
      have h2:=List.all_eq_true.1 (show ROWS.all (fun r=>decide (1<=r.kind/\r.kind<=10))=true by decide) r hr
      simp at h2 ⊢
      omega
    have hR:RowsR w k (.returned (.slice none 0 0)) w:=⟨none,0,by rw [hof];rfl,by rw [hof];exact ⟨rfl,Nat.le_refl _,by show (0:Nat)<=_;omega,fun _=>rfl,Rd.nil_ w none⟩,Below.refl _ _⟩
    have HR:=hid hR
    clear hR hof
    have n1:(k == 1)=false:=by simp;omega
    have n2:(k == 2)=false:=by simp;omega
    have n3:(k == 3)=false:=by simp;omega
    have n4:(k == 4)=false:=by simp;omega
    have n5:(k == 5)=false:=by simp;omega
    have n6:(k == 6)=false:=by simp;omega
    have n7:(k == 7)=false:=by simp;omega
    have n8:(k == 8)=false:=by simp;omega
    have n9:(k == 9)=false:=by simp;omega
    have n10:(k == 10)=false:=by simp;omega
    go_enter Tryz.func33,Tryz.ntmps33
    go_wp2
    go_ret
    exact HR.out
def OfR (w:World) (k v:Int) (e:Ending) (w':World):Prop:=∃ A c,e=.returned (.slice A (ofL k v).length c)/\SlN w' A (ofL k v).length c 3 ((ofL k v).flatMap specC)/\Below w.heap.size w w'
def accR (k v:Int) (j:Nat):List SRow:=((ofK k).take j).filter fun r=>decide ((r.since:Int)<=v)
theorem accR_has (k v:Int) (j:Nat) (hj:j < (ofK k).length) (h:((ofK k)[j].since:Int)<=v):accR k v (j+1)=accR k v j++[(ofK k)[j]]:=by
  unfold accR
  rw [List.take_succ_eq_append_getElem hj,List.filter_append,List.filter_cons_of_pos (by simpa using h)];rfl
theorem accR_not (k v:Int) (j:Nat) (hj:j < (ofK k).length) (h:¬ ((ofK k)[j].since:Int)<=v):accR k v (j+1)=accR k v j:=by
  unfold accR
  rw [List.take_succ_eq_append_getElem hj,List.filter_append,List.filter_cons_of_neg (by simpa using h),List.filter_nil,List.append_nil]
theorem accR_len (k v:Int) (j:Nat):(accR k v j).length<=j:=by
  unfold accR
  have h:=List.length_filter_le (fun r:SRow=>decide ((r.since:Int)<=v)) ((ofK k).take j)
  rw [List.length_take] at h
  omega
theorem ofK_len (k:Int):(ofK k).length<=40:=List.length_filter_le _ _
theorem r8of_any (k v:Int) (w:World) (hk0:0<=k) (hk:k<=255) (hv1 : -9223372036854775808<=v) (hv2:v<=9223372036854775807):Calls Tryz.prog 21 #[.int .u8 k,.int .i64 v] w (OfR w k v):=by
  have hnil:(v < 1\/3 < v)->OfR w k v (.returned (.slice none 0 0)) w:=fun h=>by
    have h0:kn v=[]:=by rcases kn_one v with rfl | rfl | rfl | ⟨-,h0⟩ <;> first | exact h0 | omega
    have hof:=ofL_nil k v h0
    exact ⟨none,0,by rw [hof];rfl,by rw [hof];exact ⟨rfl,Nat.le_refl _,by show (0:Nat)<=_;omega,fun _=>rfl,Rd.nil_ w none⟩,Below.refl _ _⟩
  have HNIL:=hid hnil
  clear hnil
  by_cases hlo:v < 1
  · go_enter Tryz.func21,Tryz.ntmps21
    go_wp2
    go_ret
    exact HNIL.out (.inl hlo)
  by_cases hhi:3 < v
  · go_enter Tryz.func21,Tryz.ntmps21
    go_wp2
    go_ret
    exact HNIL.out (.inr hhi)
  have hin:=ofL_in k v hhi
  have HIN:=hid hin
  have HROWS:=hid (rrows_any k w hk0 hk)
  obtain ⟨i5,hi5,hi50,hi51,hi52⟩:=info_parts Tryz.infoSpec
  have hk40:=ofK_len k
  have hhas:=accR_has k v
  have hnot:=accR_not k v
  have hall:accR k v (ofK k).length=ofL k v:=by rw [hin];unfold accR;rw [List.take_length]
  have HALL:=hid hall
  have HHAS:=hid hhas
  have HNOT:=hid hnot
  clear hin hall hhas hnot HNIL
  obtain ⟨R,hR⟩:∃ R,OfR w k v=R:=⟨_,rfl⟩
  rw [hR]
  have HR:=hid hR
  clear hR
  go_enter Tryz.func21,Tryz.ntmps21
  go_wp2_with fail
  refine HROWS.out.mono ?_
  rintro e w1 ⟨A,c,rfl,hs1,hb1⟩
  obtain ⟨m,hm⟩:∃ m,(ofK k).length=m:=⟨_,rfl⟩
  rw [hm] at hs1 HALL hk40
  rw [hm]
  have HM:=hid hm
  have HS1:=hid hs1
  have HB1:=hid hb1
  clear hm hs1 hb1 HROWS
  go_wp2_with fail
  go_loopw [5,7] (fun vv i wr=>∃ j:Nat,j<=m/\i=.int .i64 (j:Int)/\wr.ownsRow w1.heap.size 57 3 vv (accR k v j).length ((accR k v j).flatMap specC)/\Below w1.heap.size w1 wr) (fun _ i _=>m - (intOf i).toNat)
  case atStart=>exact ⟨0,by omega,rfl,World.ownsRow_nil _ _ _ _,Below.refl _ _⟩
  case round =>
    obtain ⟨j,hj,rfl,ho,hB⟩:=hrel
    by_cases hlt:j < m
    · have hjl:j < (ofK k).length:=by have:=HM.out;omega
      have hn0:((ofK k).flatMap rowC)[j * 4+0]? = _:=flatMap_get rowC 4 (ofK k) j 0 hjl (fun _ _=>rfl) (by omega)
      have hn1:((ofK k).flatMap rowC)[j * 4+1]? = _:=flatMap_get rowC 4 (ofK k) j 1 hjl (fun _ _=>rfl) (by omega)
      have hn2:((ofK k).flatMap rowC)[j * 4+2]? = _:=flatMap_get rowC 4 (ofK k) j 2 hjl (fun _ _=>rfl) (by omega)
      have hn3:((ofK k).flatMap rowC)[j * 4+3]? = _:=flatMap_get rowC 4 (ofK k) j 3 hjl (fun _ _=>rfl) (by omega)
      have hhas:=HHAS.out j hjl
      have hnot:=HNOT.out j hjl
      have hal:=accR_len k v j
      obtain ⟨b,off,rfl,hbw,t0⟩:=HS1.out.rd _ _ hn0
      have u1:=HS1.out.rd.addr _ _ hn1
      have u2:=HS1.out.rd.addr _ _ hn2
      have u3:=HS1.out.rd.addr _ _ hn3
      rw [addr_add] at u1 u2 u3
      simp only [Nat.add_zero,<-Nat.add_assoc] at t0 u1 u2 u3
      have t0:=(hB.cell (p:=⟨b,off+j * 4,none⟩) hbw).trans t0
      have t1:=(hB.cell (p:=⟨b,off+j * 4+1,none⟩) hbw).trans u1
      have t2:=(hB.cell (p:=⟨b,off+j * 4+2,none⟩) hbw).trans u2
      have t3:=(hB.cell (p:=⟨b,off+j * 4+3,none⟩) hbw).trans u3
      have hji:(j:Int) < (m:Int):=by omega
      have hj0:(0:Int)<=(j:Int):=by omega
      clear hn0 hn1 hn2 hn3 u1 u2 u3
      generalize (ofK k)[j]=r at *
      obtain ⟨rk,si,nu,ty,sl⟩:=r
      simp only at t0 t1 t2 t3 hhas hnot
      have HO:=hid ho
      have HBB:=hid hB
      have HHJ:=hid hhas
      have HNJ:=hid hnot
      clear ho hB hhas hnot
      by_cases hsi:(si:Int)<=v
      · have HHJ2:=hid (HHJ.out hsi)
        have hlen:=hal
        have hBs:=HBB.out.size
        have hob:=HO.out
        have ab:u5.ownBlock ≠ some b:=fun e=>by have:=(hob.lt b e).1;omega
        clear HHJ HNJ
        generalize accR k v j=P at *
        generalize hpl:P.length=pl at *
        generalize hpc:P.flatMap specC=pc at *
        have hn5:pl+1<=maxLen:=by simp only [maxLen];omega
        have hb5:(pl+1) * 24<=140737488355328:=by omega
        have HPL:=hid hpl
        have HPC:=hid hpc
        clear hpl hpc HO
        go_wp2_with fail
        go_region_held3 (fun w'=>w'.cell? ⟨b,off+j * 4,none⟩=some (.int .i64 (nu:Int))/\w'.cell? ⟨b,off+j * 4+1,none⟩=some (.int .i64 (ty:Int))/\w'.cell? ⟨b,off+j * 4+2,none⟩=some (.int .i64 (sl:Int)))
          (first
            | go_keep
            | (go_split_ands
               refine ⟨?_,?_,?_⟩
               · (rw [hgrow.cell_far _ (by simp;omega) (Ne.symm ab)];assumption)
               · (rw [hgrow.cell_far _ (by simp;omega) (Ne.symm ab)];assumption)
               · (rw [hgrow.cell_far _ (by simp;omega) (Ne.symm ab)];assumption)))
          ((refine step_append_lies _ (by rfl) _ _ _ (by rfl) w1.heap.size 57 i5 _ 3 24 Tryz.underlying51 hi5 hi50 hi51 hi52 rfl (by omega) u5 pl pc (by rfl) ((hob.alloc _).drew)
              ⟨wr.heap.size,0,none⟩ 1 1 [.int .i64 (nu:Int),.int .i64 (ty:Int),.int .i64 (sl:Int)] (by rfl) (by rfl) (World.news_of_block (cs:=#[.int .i64 (nu:Int),.int .i64 (ty:Int),.int .i64 (sl:Int)]) (t:=57) (fr:=(0,0)) (heap_alloc_new wr _)) (by simp [Value.oneCell'])
              (by omega) hn5 hb5 (by simp;omega) (wr.heap.size+1) (by simp) ?_;intro gg cap w5 hown1 hgrow hat hlt5))
        have hB5:Below w1.heap.size w1 w5:=bw_g (bw_d (bw_a HBB.out _) 1) hgrow (fun g hg=>(hob.lt g hg).1)
        have HF:=hid (And.intro hown1 hB5)
        clear hown1 hgrow hat hlt5 hB5 hob
        go_wp2_with fail
        refine ⟨⟨j+1,by omega,by go_num,?_,HF.out.2⟩,by simp [intOf] <;> omega⟩
        rw [HHJ2.out,List.length_append,List.flatMap_append,HPL.out,HPC.out]
        simpa [specC] using HF.out.1
      · go_wp2_with fail
        exact ⟨⟨j+1,by omega,by go_num,by rw [HNJ.out (by omega)];exact HO.out,HBB.out⟩,by simp [intOf] <;> omega⟩
    · obtain rfl:j=m:=by omega
      rw [HALL.out] at ho
      obtain ⟨A2,c2,rfl,hs2⟩:=SlN.of_own (by omega) ho
      have HS2:=hid hs2
      have HBB:=hid hB
      clear ho hs2 hB
      go_wp2_with fail
      rw [<-HR.out]
      exact ⟨A2,c2,rfl,HS2.out,HB1.out.trans (HBB.out.mono HB1.out.size)⟩
theorem r8find_any (k v n:Int) (w:World) (hk0:0<=k) (hk:k<=255) (hv1 : -9223372036854775808<=v) (hv2:v<=9223372036854775807):Calls Tryz.prog 35 #[.int .u8 k,.int .i64 v,.int .i64 n] w fun e w'=>e=.returned (.tuple #[specO (finS k v n),.bool (finS k v n).isSome])/\Below w.heap.size w w':=by
  have hof:=fun W=>r8of_any k v W hk0 hk hv1 hv2
  have hfs:=finS_of k v n
  have HOF:=hid hof
  obtain ⟨R,hR⟩:∃ R:Ending->World->Prop,R=fun e w'=>e=.returned (.tuple #[specO (finS k v n),.bool (finS k v n).isSome])/\Below w.heap.size w w':=⟨_,rfl⟩
  rw [<-hR]
  have HR:=hid hR
  have HFS:=hid hfs
  clear hR hof hfs
  go_enter Tryz.func35,Tryz.ntmps35
  go_wp2_with fail
  obtain ⟨s,hsz⟩:∃ s,w.heap.size=s:=⟨_,rfl⟩
  have hk0':=Blk.new w 57 #[.int .i64 0,.int .i64 0,.int .i64 0]
  have hb0:=bw_a (Below.refl w.heap.size w) (.cells #[.int .i64 0,.int .i64 0,.int .i64 0] 57)
  rw [hsz] at hk0' hb0 ⊢
  generalize w.alloc _=w0 at *
  refine (HOF.out w0).mono ?_
  rintro e w1 ⟨A,c,rfl,hs1,hb1⟩
  have hk1:=hk0'.below hb1 hk0'.lt
  have hb01:Below s w w1:=hb0.trans (hb1.mono (Nat.le_of_lt hk0'.lt))
  have hq40:=ofL_le40 k v
  obtain ⟨L,hL⟩:∃ L,ofL k v=L:=⟨_,rfl⟩
  rw [hL] at hs1 HFS hq40
  rw [hL]
  clear hL hb1 hk0' hb0 HOF
  obtain ⟨m,hm⟩:∃ m,L.length=m:=⟨_,rfl⟩
  rw [hm] at hs1 hq40
  rw [hm]
  have HM:=hid hm
  have HS1:=hid hs1
  have HK1:=hid hk1
  have HB1:=hid hb01
  have hf0:=hk1.frozen 0
  have hf1:=hk1.frozen 1
  have hf2:=hk1.frozen 2
  have c0:=hk1.cell 0
  have c1:=hk1.cell 1
  have c2:=hk1.cell 2
  simp only [gA,gB,gC] at c0 c1 c2
  clear hm hs1 hk1 hb01
  go_wp2_with fail
  have hend:=fun (x y z:Value)=>((HK1.out.set_ 0 x).set_ 1 y).set_ 2 z
  have hendb:=fun (x y z:Value)=>((((Chg.refl (fun q=>q=s) w1).set_ (.inl rfl) 0 x).set_ (.inl rfl) 1 y).set_ (.inl rfl) 2 z).below (B:=s) (fun q hq=>by omega) (by have:=HK1.out.lt;omega)
  have HEND:=hid hend
  have HENDB:=hid hendb
  clear hend hendb
  go_loopw [9] (fun i wr=>∃ j:Nat,j<=m/\i=.int .i64 (j:Int)/\(L.take j).find? (fun r=>decide ((r.num:Int)=n))=none/\wr=w1) (fun i _=>m - (intOf i).toNat)
  case atStart=>exact ⟨0,by omega,rfl,rfl,rfl⟩
  case round =>
    obtain ⟨j,hj,rfl,hno,rfl⟩:=hrel
    by_cases hlt:j < m
    · have hjl:j < L.length:=by have:=HM.out;omega
      have hn0:(L.flatMap specC)[j * 3+0]? = _:=flatMap_get specC 3 L j 0 hjl (fun _ _=>rfl) (by omega)
      have hn1:(L.flatMap specC)[j * 3+1]? = _:=flatMap_get specC 3 L j 1 hjl (fun _ _=>rfl) (by omega)
      have hn2:(L.flatMap specC)[j * 3+2]? = _:=flatMap_get specC 3 L j 2 hjl (fun _ _=>rfl) (by omega)
      have hfound:((L[j].num:Int)=n)->L.find? (fun r=>decide ((r.num:Int)=n))=some L[j]:=fun h=>by
        have h1:L=L.take j++(L[j] :: L.drop (j+1)):=by rw [List.getElem_cons_drop,List.take_append_drop]
        conv=>lhs;rw [h1]
        rw [List.find?_append,hno,Option.none_or,List.find?_cons_of_pos (by simpa using h)]
      have hnext:¬ ((L[j].num:Int)=n)->(L.take (j+1)).find? (fun r=>decide ((r.num:Int)=n))=none:=fun h=>by
        rw [List.take_succ_eq_append_getElem hjl,List.find?_append,hno]
        simp [h]
      obtain ⟨b,off,rfl,hbw,t0⟩:=HS1.out.rd _ _ hn0
      have t1:=HS1.out.rd.addr _ _ hn1
      have t2:=HS1.out.rd.addr _ _ hn2
      rw [addr_add] at t1 t2
      simp only [Nat.add_zero,<-Nat.add_assoc] at t0 t1 t2
      have hji:(j:Int) < (m:Int):=by omega
      have hj0:(0:Int)<=(j:Int):=by omega
      clear hn0 hn1 hn2 hno
      generalize L[j]=r at *
      obtain ⟨rk,si,nu,ty,sl⟩:=r
      simp only at t0 t1 t2 hfound hnext
      have HFO:=hid hfound
      have HNX:=hid hnext
      clear hfound hnext
      by_cases hnu:(nu:Int)=n
      · have hnb:((nu:Int) == n)=true:=by simpa using hnu
        have hfin:=HFO.out hnu
        rw [<-HFS.out] at hfin
        have HFIN:=hid hfin
        clear hfin HFO HNX hnu
        go_wp2_with fail
        have hbk:=HEND.out (.int .i64 (nu:Nat)) (.int .i64 (ty:Nat)) (.int .i64 (sl:Nat))
        have hbb:=HENDB.out (.int .i64 (nu:Nat)) (.int .i64 (ty:Nat)) (.int .i64 (sl:Nat))
        have g0:=hbk.cell 0
        have g1:=hbk.cell 1
        have g2:=hbk.cell 2
        generalize World.setCell (World.setCell _ _ _) _ _=W9 at *
        simp at g0 g1 g2
        refine bodyPost_ret (v:=.tuple #[.agg #[.int .i64 (nu:Nat),.int .i64 (ty:Nat),.int .i64 (sl:Nat)],.bool true]) (by simp [results,Tryz.results35,go_sem,g0,g1,g2]) rfl ?_
        rw [HR.out,HFIN.out,hsz]
        exact ⟨rfl,HB1.out.trans hbb⟩
      · have hnb:((nu:Int) == n)=false:=by simpa using hnu
        have hnx:=HNX.out hnu
        have HNX2:=hid hnx
        clear hnx HFO HNX hnu
        go_wp2_with fail
        exact ⟨⟨j+1,by omega,by go_num,HNX2.out,trivial⟩,by simp [intOf] <;> omega⟩
    · obtain rfl:j=m:=by omega
      rw [List.take_of_length_le (by have:=HM.out;omega),<-HFS.out] at hno
      have HNO:=hid hno
      clear hno
      go_wp2_with fail
      have hbk:=HEND.out (.int .i64 0) (.int .i64 0) (.int .i64 0)
      have hbb:=HENDB.out (.int .i64 0) (.int .i64 0) (.int .i64 0)
      have g0:=hbk.cell 0
      have g1:=hbk.cell 1
      have g2:=hbk.cell 2
      generalize World.setCell (World.setCell _ _ _) _ _=W9 at *
      simp at g0 g1 g2
      refine bodyPost_ret (v:=.tuple #[.agg #[.int .i64 0,.int .i64 0,.int .i64 0],.bool false]) (by simp [results,Tryz.results35,go_sem,g0,g1,g2]) rfl ?_
      rw [HR.out,HNO.out,hsz]
      exact ⟨rfl,HB1.out.trans hbb⟩
end Go.Proofs.YtpmfdlghckfgiaaGreat
set_option linter.unusedVariables false
set_option maxRecDepth 100000
set_option maxHeartbeats 16000000
namespace Go.Proofs.YtpmfdlghckfgiaaGreat
open Go.RowKit
def fvK (f:FV):Int × Int × Nat × List UInt8 × Int:=(f.num,f.w,f.n,f.s.xs,f.at_)
end Go.Proofs.YtpmfdlghckfgiaaGreat
namespace Go.Proofs.YtpmfdlghckfgiaaGreat
open Go.RowKit
theorem FvOk.below {w w':World} {f:FV} (h:FvOk w f) (hb:Below w.heap.size w w'):FvOk w' f:=⟨h.w0,h.w1,h.n,h.n1,h.n2,h.a1,h.a2,h.s.below hb⟩
end Go.Proofs.YtpmfdlghckfgiaaGreat
namespace Go.Proofs.YtpmfdlghckfgiaaGreat
open Go.RowKit
end Go.Proofs.YtpmfdlghckfgiaaGreat
namespace Go.Proofs.YtpmfdlghckfgiaaGreat
open Go.RowKit
theorem sln_own {w:World} {base e size n:Nat} {v:Value} {xs:List Value} (hsz:0 < size) (h:w.ownsRow base e size v n xs):∃ A c,v=.slice A n c/\SlN w A n c size xs:=by
 rcases h.2 with ⟨rfl,rfl⟩ | ⟨g,cap,cur,rfl,hb,hg,hnc,hcm,hcs,htake⟩
 ·have hx:xs=[]:=List.eq_nil_of_length_eq_zero (by simpa using h.1)
  subst hx
  exact ⟨none,0,rfl,⟨by simp,by omega,by omega,fun _=>rfl,Rd.nil_ w _⟩⟩
 ·refine ⟨_,cap,rfl,⟨h.1,hnc,hcm,(fun h=>by cases h),fun k u hk=>⟨g,0,rfl,(Array.getElem?_eq_some_iff.1 hg).1,?_⟩⟩⟩
  have:=h.cells (g:=g) rfl k u hk
  rwa [addr_add] at this
theorem sl_lit (w:World) (t:TypeId) (bs:List UInt8) (cs:Array Value) (n:Nat) (hn:bs.length=n) (hm:n<=9223372036854775807) (h:cs.toList=bs.map bv):Sl (w.alloc (.cells cs t)) (some ⟨w.heap.size,0,none⟩) n (bs.map bv) :=
 ⟨by simp [hn],hm,(fun h=>by cases h),by rw [<-h];exact Rd.new w t cs⟩
def L6 (A1:Option Addr) (c1:Nat) (A2:Option Addr) (c2:Nat):List FV:=[⟨1,0,5,⟨A1,c1,[]⟩,0⟩,⟨2,2,0,⟨A2,c2,[97]⟩,2⟩]
structure L6Ok (w:World) (Al:Option Addr) (cl:Nat) (A1:Option Addr) (c1:Nat) (A2:Option Addr) (c2:Nat):Prop where
 sl:SlN w Al 2 cl 5 ((L6 A1 c1 A2 c2).flatMap fvC)
 ok:∀ f ∈ L6 A1 c1 A2 c2,FvOk w f
theorem L6Ok.below {w w':World} {Al A1 A2:Option Addr} {cl c1 c2:Nat} (h:L6Ok w Al cl A1 c1 A2 c2) (hb:Below w.heap.size w w'):L6Ok w' Al cl A1 c1 A2 c2:=⟨h.sl.below hb,fun f hf=>(h.ok f hf).below hb⟩
section
variable {w:World} {Al A1 A2:Option Addr} {cl c1 c2:Nat}
end
end Go.Proofs.YtpmfdlghckfgiaaGreat
namespace Go.Proofs.YtpmfdlghckfgiaaGreat
open Go.RowKit
def ReadOk (n:Nat) (f:FV):Prop:=0<=f.w/\f.w<=255/\f.n<=18446744073709551615/\1<=f.num/\f.num<=536870911/\0<=f.at_/\f.at_<=n/\f.s.xs.length<=n
theorem read_ok (bs:List UInt8):∀ (fu p:Nat) (fs:List FV),p<=bs.length->fvAll fs (flds bs fu p).1->fs.length+p<=bs.length/\∀ f ∈ fs,ReadOk bs.length f
 | 0,p,fs,hp,hf=>by
  cases fs with
  | nil=>exact ⟨by simpa using hp,fun f hf=>by simp at hf⟩
  | cons f fs=>exact hf.elim
 | fu+1,p,fs,hp,hf=>by
  rw [flds] at hf
  by_cases h1:bs.length<=p
  ·rw [if_pos h1] at hf
   cases fs with
   | nil=>exact ⟨by simpa using hp,fun f hf=>by simp at hf⟩
   | cons f fs=>exact hf.elim
  ·rw [if_neg h1] at hf
   by_cases h2:(rOne bs p).e=0
   ·rw [if_pos h2] at hf
    cases fs with
    | nil=>exact ⟨by simpa using hp,fun f hf=>by simp at hf⟩
    | cons f fs =>
     have hn:=rOne_facts bs p hp
     obtain ⟨n1,n2,n3,n4,n5⟩:=hn.1 h2
     obtain ⟨a1,a2,a3,a4⟩:=again_one f bs p hp h2 hf.1
     obtain ⟨b1,b2⟩:=read_ok bs fu (rOne bs p).nx fs n2 hf.2
     obtain ⟨f1,f2,f3,f4,f5⟩:=hf.1
     simp only at f1 f2 f3 f4 f5
     refine ⟨by rw [List.length_cons];omega,fun g hg=>?_⟩
     rcases List.mem_cons.1 hg with rfl | hg
     ·have hx:g.s.xs.length<=bs.length:=by
       have hp2:(pBF g).length=(putN (mk g.num g.w).1.toNat).length+(pTail g.w g.n g.s.xs).length:=by unfold pBF pB;rw [List.length_append]
       by_cases hw:g.w=2
       ·have ht:pTail g.w g.n g.s.xs=putN g.s.xs.length++g.s.xs:=by rw [hw];rfl
        rw [ht,List.length_append] at hp2
        omega
       ·unfold bareX at a3
        rw [if_neg hw] at a3
        rw [<-a3];simp
      refine ⟨by rw [f2];omega,by rw [f2];omega,by rw [f3];exact hn.2,by rw [f1];exact n3,by rw [f1];exact n4,by rw [f5];omega,by rw [f5];omega,hx⟩
     ·exact b2 g hg
   ·rw [if_neg h2] at hf
    cases fs with
    | nil=>exact ⟨by simpa using hp,fun f hf=>by simp at hf⟩
    | cons f fs=>exact hf.elim
end Go.Proofs.YtpmfdlghckfgiaaGreat
namespace Go.Proofs.YtpmfdlghckfgiaaGreat
open Go.RowKit
end Go.Proofs.YtpmfdlghckfgiaaGreat
namespace Go.Proofs.YtpmfdlghckfgiaaGreat
open Go.RowKit
end Go.Proofs.YtpmfdlghckfgiaaGreat
set_option linter.unusedVariables false
set_option maxRecDepth 100000
set_option maxHeartbeats 16000000
namespace Go.Proofs.YtpmfdlghckfgiaaGreat
open Go.RowKit
theorem r5bytes_any (xs:List UInt8) (n:Nat) (A:Option Addr) (c:Nat) (w:World) (hn:xs.length=n) (hl:n<=1000000) (hs:Sl w A c (xs.map bv)) :
  Calls Tryz.prog 64 #[.slice A n c] w fun e w'=>∃ A' c',e=.returned (.slice A' ((putN n).length+n) c')/\Sl w' A' c' ((putN n++xs).map bv)/\(∀ b o,A'=some ⟨b,o,none⟩->w.heap.size<=b)/\Below w.heap.size w w':=by
 have HN:=hid hn
 have HS:=hid hs
 clear hn hs
 have hw9:IntKind.u64.wrap (n:Int)=(n:Int):=IntWalk.u64_in _ (by omega)
 have hp10:(putN n).length<=10:=by unfold putN;rw [List.length_map];exact sevs_length10 (by omega)
 generalize hpl:(putN n).length=pl at *
 have HPL:=hid hpl
 clear hpl
 go_enter Tryz.func64,Tryz.ntmps64
 go_wp2_with fail
 refine (rput_any n w (by omega)).mono ?_
 rintro e w1 ⟨A1,c1,rfl,hs1,hb1⟩
 rw [HPL.out]
 have hs0:=HS.out.below hb1
 have HS1:=hid hs1
 have HS0:=hid hs0
 have HB1:=hid hb1
 clear hs1 hs0 hb1
 go_wp2_with fail
 refine (rjoin2_any (putN n) xs pl n A1 A c1 c w1 HPL.out HN.out (by omega) HS1.out HS0.out).mono ?_
 rintro e w2 ⟨A2,c2,rfl,hs2,hf2,hb2⟩
 go_wp2_with fail
 go_ret
 exact ⟨A2,c2,rfl,hs2,fun b o he=>Nat.le_trans HB1.out.size (hf2 b o he),bw_t HB1.out hb2⟩
theorem rfb_any (f:FV) (w:World) (h:FvOk w f) (he:pErrF f=0) (hx:f.s.xs.length<=100000) :
  Calls Tryz.prog 44 #[.agg (fvC f).toArray] w fun e w'=>∃ A' c',e=.returned (.slice A' (pBF f).length c')/\Sl w' A' c' ((pBF f).map bv)/\Below w.heap.size w w':=by
 obtain ⟨hm,hw,hl⟩:=pErr_inv f he h.w0 h.w1
 obtain ⟨num,x,n,⟨A,c,xs⟩,at_⟩:=f
 obtain ⟨h0,h1,hn,-,-,-,-,hs⟩:=h
 simp only at hm hw hl h0 h1 hn hs hx
 have hmf:=mk_facts num x h0 h1
 have hmk:=fun W=>rmake_any num x W h0 h1
 obtain ⟨k,hk⟩:∃ k:Nat,(mk num x).1=(k:Int):=⟨(mk num x).1.toNat,by omega⟩
 have hk64:k<=18446744073709551615:=by omega
 have hpb:pBF ⟨num,x,n,⟨A,c,xs⟩,at_⟩=putN k++pTail x n xs:=by
  show putN (mk num x).1.toNat++pTail x n xs=_
  rw [hk];rfl
 rw [hpb]
 rw [hm,hk] at hmk
 have hk10:=putN_length10 hk64
 have hvp:=fun W=>rput_any k W hk64
 generalize hpp:putN k=P at *
 have HMK:=hid hmk
 have HVP:=hid hvp
 have HS:=hid hs
 clear hmk hvp hs hmf hpb hk hpp hm he
 simp only [fvC,List.length_append]
 obtain ⟨xl,hxl⟩:∃ xl,xs.length=xl:=⟨_,rfl⟩
 rw [hxl] at hx hl
 rw [hxl]
 rcases hw with rfl | rfl | rfl | rfl
 ·have hB0:=bw_a (Below.refl w.heap.size w) (.cells #[.int .i64 num,.int .u8 0,.int .u64 (n:Int),.slice A xl c,.int .i64 at_] 61)
  have ht:pTail 0 n xs=putN n:=rfl
  rw [ht]
  have hl3:=putN_length10 hn
  have hT:=fun W=>rput_any n W hn
  generalize hq:putN n=Q at *
  have HT:=hid hT
  clear hT hq ht
  go_enter Tryz.func44,Tryz.ntmps44
  go_wp2_with (go_at_call 61;refine (HMK.out _).mono ?_;rintro e w' ⟨rfl,rfl⟩)
  refine (HVP.out _).mono ?_
  rintro e w1 ⟨A1,c1,rfl,hs1,hb1⟩
  have b1:=bw_t hB0 hb1
  have hk1:=(Blk.new w 61 #[.int .i64 num,.int .u8 0,.int .u64 (n:Int),.slice A xl c,.int .i64 at_]).below hb1 (Blk.new w _ _).lt
  have d1:=hk1.cell 1
  have d2:=hk1.cell 2
  have d3:=hk1.cell 3
  simp only [gA,gB,gC] at d1 d2 d3
  have hlk:=hk1.lt
  clear hk1 hb1 hB0
  go_wp2_with fail
  refine (HT.out _).mono ?_
  rintro e w2 ⟨A2,c2,rfl,hs2,hb2⟩
  have b2:=bw_t b1 hb2
  have hs12:=hs1.below hb2
  clear hb2 hs1 d1 d2 d3 b1
  go_wp2_with fail
  refine (rjoin2_any P Q P.length Q.length A1 A2 c1 c2 _ rfl rfl (by omega) hs12 hs2).mono ?_
  rintro e w3 ⟨A3,c3,rfl,hs3,-,hb3⟩
  go_wp2_with fail
  go_ret
  exact ⟨A3,c3,rfl,hs3,bw_t b2 hb3⟩
 ·have hB0:=bw_a (Below.refl w.heap.size w) (.cells #[.int .i64 num,.int .u8 1,.int .u64 (n:Int),.slice A xl c,.int .i64 at_] 61)
  have ht:pTail 1 n xs=fixN 8 n:=rfl
  rw [ht]
  have hl3:=length_fixN 8 n
  have hT:=fun W=>rfix_at n 8 8 W rfl hn (by omega)
  rw [hl3]
  generalize hq:fixN 8 n=Q at *
  have HT:=hid hT
  clear hT hq ht
  go_enter Tryz.func44,Tryz.ntmps44
  go_wp2_with (go_at_call 61;refine (HMK.out _).mono ?_;rintro e w' ⟨rfl,rfl⟩)
  refine (HVP.out _).mono ?_
  rintro e w1 ⟨A1,c1,rfl,hs1,hb1⟩
  have b1:=bw_t hB0 hb1
  have hk1:=(Blk.new w 61 #[.int .i64 num,.int .u8 1,.int .u64 (n:Int),.slice A xl c,.int .i64 at_]).below hb1 (Blk.new w _ _).lt
  have d1:=hk1.cell 1
  have d2:=hk1.cell 2
  have d3:=hk1.cell 3
  simp only [gA,gB,gC] at d1 d2 d3
  have hlk:=hk1.lt
  clear hk1 hb1 hB0
  go_wp2_with fail
  refine (HT.out _).mono ?_
  rintro e w2 ⟨A2,c2,rfl,hs2,hb2⟩
  have b2:=bw_t b1 hb2
  have hs12:=hs1.below hb2
  clear hb2 hs1 d1 d2 d3 b1
  go_wp2_with fail
  refine (rjoin2_any P Q P.length 8 A1 A2 c1 c2 _ rfl hl3 (by omega) hs12 hs2).mono ?_
  rintro e w3 ⟨A3,c3,rfl,hs3,-,hb3⟩
  go_wp2_with fail
  go_ret
  exact ⟨A3,c3,rfl,hs3,bw_t b2 hb3⟩
 ·have hB0:=bw_a (Below.refl w.heap.size w) (.cells #[.int .i64 num,.int .u8 2,.int .u64 (n:Int),.slice A xl c,.int .i64 at_] 61)
  have ht:pTail 2 n xs=putN xl++xs:=by rw [<-hxl];rfl
  rw [ht]
  have hl3:(putN xl).length<=10:=putN_length10 (by omega)
  have hT:=fun W (hW:Below w.heap.size w W)=>r5bytes_any xs xl A c W hxl (by omega) (HS.out.below hW)
  have hlq:(putN xl++xs).length=(putN xl).length+xl:=by rw [List.length_append,hxl]
  rw [hlq]
  generalize hq:putN xl++xs=Q at *
  generalize hpl:(putN xl).length=pl at *
  have HT:=hid hT
  clear hT hq ht
  go_enter Tryz.func44,Tryz.ntmps44
  go_wp2_with (go_at_call 61;refine (HMK.out _).mono ?_;rintro e w' ⟨rfl,rfl⟩)
  refine (HVP.out _).mono ?_
  rintro e w1 ⟨A1,c1,rfl,hs1,hb1⟩
  have b1:=bw_t hB0 hb1
  have hk1:=(Blk.new w 61 #[.int .i64 num,.int .u8 2,.int .u64 (n:Int),.slice A xl c,.int .i64 at_]).below hb1 (Blk.new w _ _).lt
  have d1:=hk1.cell 1
  have d2:=hk1.cell 2
  have d3:=hk1.cell 3
  simp only [gA,gB,gC] at d1 d2 d3
  have hlk:=hk1.lt
  clear hk1 hb1 hB0
  go_wp2_with fail
  refine (HT.out _ b1).mono ?_
  rintro e w2 ⟨A2,c2,rfl,hs2,-,hb2⟩
  have b2:=bw_t b1 hb2
  have hs12:=hs1.below hb2
  clear hb2 hs1 d1 d2 d3 b1
  go_wp2_with fail
  refine (rjoin2_any P Q P.length (pl+xl) A1 A2 c1 c2 _ rfl hlq (by omega) hs12 hs2).mono ?_
  rintro e w3 ⟨A3,c3,rfl,hs3,-,hb3⟩
  go_wp2_with fail
  go_ret
  exact ⟨A3,c3,rfl,hs3,bw_t b2 hb3⟩
 ·have hB0:=bw_a (Below.refl w.heap.size w) (.cells #[.int .i64 num,.int .u8 5,.int .u64 (n:Int),.slice A xl c,.int .i64 at_] 61)
  have ht:pTail 5 n xs=fixN 4 (n % 4294967296):=rfl
  rw [ht]
  have hl3:=length_fixN 4 (n % 4294967296)
  have hT:=fun W=>rfix_at (n % 4294967296) 4 4 W rfl (by omega) (by omega)
  rw [hl3]
  have hmod:(n:Int) % 4294967296=((n % 4294967296:Nat):Int):=by omega
  have htm:(n:Int).tmod 4294967296=((n % 4294967296:Nat):Int):=by rw [Int.tmod_eq_emod_of_nonneg (by omega)];omega
  have hwr:IntKind.u64.wrap ((n % 4294967296:Nat):Int)=((n % 4294967296:Nat):Int):=IntWalk.u64_in _ (by omega)
  generalize hq:fixN 4 (n % 4294967296)=Q at *
  generalize n % 4294967296=n4 at *
  have HT:=hid hT
  clear hT hq ht
  go_enter Tryz.func44,Tryz.ntmps44
  go_wp2_with (go_at_call 61;refine (HMK.out _).mono ?_;rintro e w' ⟨rfl,rfl⟩)
  refine (HVP.out _).mono ?_
  rintro e w1 ⟨A1,c1,rfl,hs1,hb1⟩
  have b1:=bw_t hB0 hb1
  have hk1:=(Blk.new w 61 #[.int .i64 num,.int .u8 5,.int .u64 (n:Int),.slice A xl c,.int .i64 at_]).below hb1 (Blk.new w _ _).lt
  have d1:=hk1.cell 1
  have d2:=hk1.cell 2
  have d3:=hk1.cell 3
  simp only [gA,gB,gC] at d1 d2 d3
  have hlk:=hk1.lt
  clear hk1 hb1 hB0
  go_wp2_with fail
  refine (HT.out _).mono ?_
  rintro e w2 ⟨A2,c2,rfl,hs2,hb2⟩
  have b2:=bw_t b1 hb2
  have hs12:=hs1.below hb2
  clear hb2 hs1 d1 d2 d3 b1
  go_wp2_with fail
  refine (rjoin2_any P Q P.length 4 A1 A2 c1 c2 _ rfl hl3 (by omega) hs12 hs2).mono ?_
  rintro e w3 ⟨A3,c3,rfl,hs3,-,hb3⟩
  go_wp2_with fail
  go_ret
  exact ⟨A3,c3,rfl,hs3,bw_t b2 hb3⟩
end Go.Proofs.YtpmfdlghckfgiaaGreat
namespace Go.Proofs.YtpmfdlghckfgiaaGreat
open Go.RowKit
end Go.Proofs.YtpmfdlghckfgiaaGreat
namespace Go.Proofs.YtpmfdlghckfgiaaGreat
open Go.RowKit
theorem putsE_zero (l:List FV) (h:∀ f ∈ l,pErrF f=0):∀ i,putsE l i=(0,0):=by
 induction l with
 | nil=>intro i;rfl
 | cons f fs ih =>
  intro i
  rw [putsE,if_pos (h f (List.mem_cons_self ..))]
  exact ih (fun g hg=>h g (List.mem_cons_of_mem _ hg)) _
end Go.Proofs.YtpmfdlghckfgiaaGreat
namespace Go.Proofs.YtpmfdlghckfgiaaGreat
open Go.RowKit
theorem putsE_all (l:List FV):∀ i,(putsE l i).1=0->(∀ f ∈ l,pErrF f=0):=by
 induction l with
 | nil=>intro i _ f hf;simp at hf
 | cons f fs ih =>
  intro i h
  rw [putsE] at h
  by_cases h0:pErrF f=0
  ·rw [if_pos h0] at h
   intro g hg
   rcases List.mem_cons.1 hg with rfl | hg
   ·exact h0
   ·exact ih _ h g hg
  ·rw [if_neg h0] at h
   exact absurd h h0
end Go.Proofs.YtpmfdlghckfgiaaGreat
