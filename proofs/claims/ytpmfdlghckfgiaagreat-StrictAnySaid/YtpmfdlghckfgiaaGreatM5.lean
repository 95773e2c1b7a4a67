/- The document's reader: fault, Varint. · A -/
import Derived.Test.YtpmfdlghckfgiaaGreatProg
import Derived.Test.YtpmfdlghckfgiaaGreatG0
import Derived.Test.YtpmfdlghckfgiaaGreatM4
import Derived.StillTailTactics
import Derived.Deep.RegionHeld3
import Derived.IntWalk
import Derived.Test.YtpmfdlghckfgiaaGreatM2
set_option linter.unusedVariables false
set_option maxRecDepth 100000
set_option maxHeartbeats 16000000
namespace Go.Proofs.YtpmfdlghckfgiaaGreat
open Go.RowKit
theorem rfault_any (e:Nat) (w:World) (q:Nat) (A:Option Addr) (c:Nat) (bs:List UInt8) (p:Nat) (h:Rin 80 w q A c bs p) :
  Calls Tryz.prog 85 #[.pointer (some ⟨q,0,none⟩),.int .i64 (e:Int)] w fun r w'=>r=.returned (.agg #[.int .i64 (e:Int),.int .i64 (flt e p:Nat)])/\Below w.heap.size w w':=by
 have c1:w.cell? ⟨q,1,none⟩=some (.int .i64 (p:Int)):=by simpa using h.blk.cell 1
 have hlt:=h.blk.lt
 clear h
 by_cases he:e=0
 ·subst he
  simp only [flt,if_true]
  go_enter Tryz.func85,Tryz.ntmps85
  go_wp2
  refine bodyPost_ret (v:=.agg #[.int .i64 0,.int .i64 0]) (by simp [results,Tryz.results85,go_sem]) rfl ⟨rfl,?_⟩
  exact (Below.refl _ _).alloc (Nat.le_refl _) _
 ·have heb:((e:Int) == 0)=false:=by simp;omega
  simp only [flt,he,if_false]
  clear he
  go_enter Tryz.func85,Tryz.ntmps85
  go_wp2
  refine bodyPost_ret (v:=.agg #[.int .i64 (e:Int),.int .i64 (p:Int)]) (by simp [results,Tryz.results85,go_sem]) rfl ⟨rfl,?_⟩
  exact (Below.refl _ _).alloc (Nat.le_refl _) _
theorem rget_rest {w:World} {q:Nat} {A:Option Addr} {c:Nat} {bs:List UInt8} {p:Nat} (h:Rin 80 w q A c bs p) (n:Nat) :
  Calls Tryz.prog 84 #[.slice (cutA A c p) (bs.length - p) (c - p)] (w.drewN n) fun e w'=>e=.returned (.tuple #[.int .u64 (M.get (bs.drop p)).1,.int .i64 (M.get (bs.drop p)).2.1,.int .i64 (M.get (bs.drop p)).2.2])/\w'=w.drewN n :=
 (rget_at (bs.drop p) (bs.length - p) (cutA A c p) (c - p) (w.drewN n) (by simp) (by have:=h.cap;have:=h.sl.small;omega) ((h.sl.cut p h.le).rd.drewN n)).mono fun _ _ ⟨a,b⟩=>⟨a,b.symm⟩
theorem rvar_any (w:World) (q:Nat) (A:Option Addr) (c:Nat) (bs:List UInt8) (p:Nat) (h:Rin 80 w q A c bs p) :
  Calls Tryz.prog 57 #[.pointer (some ⟨q,0,none⟩)] w fun e w'=>e=.returned (.tuple #[.int .u64 ((M.get (bs.drop p)).1:Nat),.agg #[.int .i64 ((M.get (bs.drop p)).2.2:Nat),.int .i64 (flt (M.get (bs.drop p)).2.2 p:Nat)]])/\Rin 80 w' q A c bs (p+(M.get (bs.drop p)).2.1)/\Only q w w':=by
 have hcap:=h.cap
 have hsm:=h.sl.small
 have hle:=h.le
 have hlt:=h.blk.lt
 have h0:=h.below ((Below.refl _ w).alloc (Nat.le_refl _) (.cells #[.int .i64 0,.int .i64 0] 32))
 have hc:=rget_rest h0
 have hf:=M.get_facts (bs.drop p)
 have hk:(M.get (bs.drop p)).2.1<=bs.length - p:=by
  by_cases he:(M.get (bs.drop p)).2.2=0
  ·have:=(hf.1 he).2.2.1;simpa using this
  ·have:=(hf.2 he).2.1;omega
 have c0:w.cell? ⟨q,0,none⟩=some (.slice A bs.length c):=by simpa using h.blk.cell 0
 have c1:w.cell? ⟨q,1,none⟩=some (.int .i64 (p:Int)):=by simpa using h.blk.cell 1
 have H0:=hid h0
 have HSL:=hid h.sl
 clear hf h
 generalize M.get (bs.drop p)=g at *
 obtain ⟨v,k,e⟩:=g
 simp only at hk hc
 have HC:=hid hc
 clear hc h0
 generalize hN:bs.length=N at *
 have hfa:=fun W hb=>rfault_any e W q A c bs p (H0.out.below hb)
 have HFA:=hid hfa
 clear hfa
 have hq:Blk (w.alloc (.cells #[.int .i64 0,.int .i64 0] 32)) w.heap.size 32 #[.int .i64 0,.int .i64 0]:=Blk.new w _ _
 have HQ:=hid hq
 clear hq
 by_cases hcp:c=p
 case' pos =>
  obtain rfl:p=c:=hcp.symm
  have hX:cutA A p p=A:=by simp [cutA]
  rw [hX,Nat.sub_self,show N - p=0 from by omega] at HC
 case' neg =>
  have hX:cutA A c p=Option.map (fun x=>x.add p) A:=by simp [cutA,hcp]
  rw [hX] at HC
 all_goals
  clear hX
  go_enter Tryz.func57,Tryz.ntmps57
  go_wp2_with fail
  go_quiet ((go_at_call 84;exact Calls.quiet_of_same (HC.out _)))
  go_wp2_with fail
  refine (HFA.out _ (below_drewN (Below.refl _ _) _)).mono ?_
  rintro e1 w2 ⟨rfl,hb2⟩
  have hbq:Below (w.alloc (.cells #[.int .i64 0,.int .i64 0] 32)).heap.size (w.alloc (.cells #[.int .i64 0,.int .i64 0] 32)) w2:=(below_drewN (Below.refl _ _) _).trans hb2
  have hr2:=H0.out.below hbq
  have hq2:=HQ.out.below hbq (by simp)
  clear hb2 c0 c1
  have c1:w2.cell? ⟨q,1,none⟩=some (.int .i64 (p:Int)):=by simpa using hr2.blk.cell 1
  have r1:=hr2.blk.frozen 1
  have rl:=hr2.blk.lt
  have d0:w2.cell? ⟨w.heap.size,0,none⟩=some (.int .i64 0):=hq2.cell 0
  have d1:w2.cell? ⟨w.heap.size,1,none⟩=some (.int .i64 0):=hq2.cell 1
  have f0:=hq2.frozen 0
  have f1:=hq2.frozen 1
  have dl:=hq2.lt
  have hfn:=fun g (hg:w.heap.size<=g)=>far_new (w:=w) (g:=g) HSL.out hg
  have HFN:=hid hfn
  have HB:=hid hbq
  have HR2:=hid hr2
  have HQ2:=hid hq2
  clear hbq hr2 hq2 hfn
  go_wp2_with fail
  generalize hW:World.alloc _ _=W
  have h1:Only q w2 W:=by rw [<-hW];exact ((Only.refl q w2).set_ 1 _).alloc _
  have ho:Only q w W:=((((Only.refl q w).alloc _).trans (.of_below HB.out))).trans h1
  have hr3:=HR2.out.move h1 (p':=p+k) (by
   rw [<-hW]
   have hb:=(HR2.out.blk.set_ 1 (.int .i64 ((p:Int)+(k:Int)))).alloc (.cells #[.int .i64 (e:Int),.int .i64 (flt e p:Nat)] 32)
   simpa using hb) (by omega)
  have e0:W.cell? ⟨w2.heap.size,0,none⟩=some (.int .i64 (e:Int)):=by
   rw [<-hW]
   have hb:=(Blk.new (w2.setCell ⟨q,1,none⟩ (.int .i64 ((p:Int)+(k:Int)))) 32 #[.int .i64 (e:Int),.int .i64 (flt e p:Nat)]).cell 0
   simpa using hb
  have e1:W.cell? ⟨w2.heap.size,1,none⟩=some (.int .i64 (flt e p:Nat)):=by
   rw [<-hW]
   have hb:=(Blk.new (w2.setCell ⟨q,1,none⟩ (.int .i64 ((p:Int)+(k:Int)))) 32 #[.int .i64 (e:Int),.int .i64 (flt e p:Nat)]).cell 1
   simpa using hb
  have hq3:=h1.blk HQ2.out (by omega)
  have d0':W.cell? ⟨w.heap.size,0,none⟩=some (.int .i64 0):=hq3.cell 0
  have d1':W.cell? ⟨w.heap.size,1,none⟩=some (.int .i64 0):=hq3.cell 1
  have f0':=hq3.frozen 0
  have f1':=hq3.frozen 1
  have dl':=hq3.lt
  have dl2:w2.heap.size < W.heap.size:=by rw [<-hW];simp
  have HO:=hid ho
  have HR3:=hid hr3
  clear hW h1 ho hr3 hq3 c1 r1 d0 d1 f0 f1
  go_still_tail 3,(by kernel_rfl)
  change wpList _ _ _ _ _ W.drew
  go_wp2_with fail
  refine bodyPost_ret (v:=.tuple #[.int .u64 (v:Nat),.agg #[.int .i64 (e:Int),.int .i64 (flt e p:Nat)]]) (by simp [results,Tryz.results57,go_sem,d0',d1']) rfl ⟨rfl,?_,?_⟩
  ·have h1:=HR3.out.below (below_drewN (Below.refl W.heap.size W) 1)
   exact (h1.far_set (by omega) (HFN.out _ (by omega)) _ _).far_set (by omega) (HFN.out _ (by omega)) _ _
  ·exact ((HO.out.drewN 1).new_ (by omega) _ _).new_ (by omega) _ _
end Go.Proofs.YtpmfdlghckfgiaaGreat
namespace Go.Proofs.YtpmfdlghckfgiaaGreat
open Go.RowKit
structure St (t:TypeId) (w W:World) (q:Nat) (A:Option Addr) (c:Nat) (bs:List UInt8) (p:Nat):Prop where
 r:Rin t W q A c bs p
 f:Blk W w.heap.size 32 #[.int .i64 0,.int .i64 0]
 o:Only q w W
 lt:q < w.heap.size
 far:∀ g,w.heap.size<=g->Far A bs.length g
section
variable {t:TypeId} {w W W':World} {q:Nat} {A:Option Addr} {c:Nat} {bs:List UInt8} {p:Nat}
theorem St.start (h:Rin t w q A c bs p):St t w (w.alloc (.cells #[.int .i64 0,.int .i64 0] 32)) q A c bs p :=
 ⟨h.below ((Below.refl _ w).alloc (Nat.le_refl _) _),Blk.new w _ _,(Only.refl q w).alloc _,h.blk.lt,fun g hg=>far_new h.sl hg⟩
theorem St.below (h:St t w W q A c bs p) (hb:Below W.heap.size W W'):St t w W' q A c bs p :=
 ⟨h.r.below hb,h.f.below hb h.f.lt,h.o.trans (.of_below hb),h.lt,h.far⟩
theorem St.drewN (h:St t w W q A c bs p) (n:Nat):St t w (W.drewN n) q A c bs p:=h.below (below_drewN (Below.refl _ _) n)
theorem St.alloc (h:St t w W q A c bs p) (o:Obj):St t w (W.alloc o) q A c bs p:=h.below ((Below.refl _ _).alloc (Nat.le_refl _) o)
theorem St.only {p':Nat} (h:St t w W q A c bs p) (ho:Only q W W') (hr:Rin t W' q A c bs p'):St t w W' q A c bs p' :=
 ⟨hr,ho.blk h.f (by have:=h.lt;omega),h.o.trans ho,h.lt,h.far⟩
theorem St.move (h:St t w W q A c bs p) (p':Nat) (hp:p'<=bs.length):St t w (W.setCell ⟨q,1,none⟩ (.int .i64 (p':Int))) q A c bs p':=by
 have ho:=(Only.refl q W).set_ 1 (.int .i64 (p':Int))
 refine h.only ho (h.r.move ho ?_ hp)
 have hb:=h.r.blk.set_ 1 (.int .i64 (p':Int))
 simpa using hb
theorem St.c0 (h:St t w W q A c bs p):W.cell? ⟨q,0,none⟩=some (.slice A bs.length c):=by simpa using h.r.blk.cell 0
theorem St.c1 (h:St t w W q A c bs p):W.cell? ⟨q,1,none⟩=some (.int .i64 (p:Int)):=by simpa using h.r.blk.cell 1
theorem St.r1 (h:St t w W q A c bs p):W.frozen? ⟨q,1,none⟩=false:=h.r.blk.frozen 1
theorem St.ql (h:St t w W q A c bs p):q < W.heap.size:=h.r.blk.lt
theorem St.d0 (h:St t w W q A c bs p):W.cell? ⟨w.heap.size,0,none⟩=some (.int .i64 0):=h.f.cell 0
theorem St.d1 (h:St t w W q A c bs p):W.cell? ⟨w.heap.size,1,none⟩=some (.int .i64 0):=h.f.cell 1
theorem St.f0 (h:St t w W q A c bs p):W.frozen? ⟨w.heap.size,0,none⟩=false:=h.f.frozen 0
theorem St.f1 (h:St t w W q A c bs p):W.frozen? ⟨w.heap.size,1,none⟩=false:=h.f.frozen 1
theorem St.dl (h:St t w W q A c bs p):w.heap.size < W.heap.size:=h.f.lt
theorem St.fin (h:St t w W q A c bs p) (u v:Value):Rin t ((W.setCell ⟨w.heap.size,0,none⟩ u).setCell ⟨w.heap.size,1,none⟩ v) q A c bs p/\Only q w ((W.setCell ⟨w.heap.size,0,none⟩ u).setCell ⟨w.heap.size,1,none⟩ v):=by
 have hl:=h.lt
 refine ⟨(h.r.far_set (by omega) (h.far _ (Nat.le_refl _)) _ _).far_set (by omega) (h.far _ (Nat.le_refl _)) _ _,?_⟩
 exact (h.o.new_ (Nat.le_refl _) _ _).new_ (Nat.le_refl _) _ _
theorem St.rfault (h:St 80 w W q A c bs p) (e:Nat) :
  Calls Tryz.prog 85 #[.pointer (some ⟨q,0,none⟩),.int .i64 (e:Int)] W fun r w'=>r=.returned (.agg #[.int .i64 (e:Int),.int .i64 (flt e p:Nat)])/\Below W.heap.size W w':=rfault_any e W q A c bs p h.r
end
theorem rtag_any (w:World) (q:Nat) (A:Option Addr) (c:Nat) (bs:List UInt8) (p:Nat) (h:Rin 80 w q A c bs p) :
  Calls Tryz.prog 56 #[.pointer (some ⟨q,0,none⟩)] w fun e w'=>e=.returned (.tuple #[.int .i64 (if (rHead bs p).2.2.1=0 then (rHead bs p).1 else 0),.int .u8 (if (rHead bs p).2.2.1=0 then (rHead bs p).2.1 else 0),.agg #[.int .i64 ((rHead bs p).2.2.1:Nat),.int .i64 (flt (rHead bs p).2.2.1 p:Nat)]])/\Rin 80 w' q A c bs (plc (rHead bs p).2.2.1 p (rHead bs p).2.2.2)/\Only q w w':=by
 have hst:=St.start h
 have hcap:=h.cap
 have hsm:=h.sl.small
 have hle:=h.le
 have hlt:=h.blk.lt
 have hc:=rget_rest hst.r
 have hf:=M.get_facts (bs.drop p)
 have hk:(M.get (bs.drop p)).2.1<=bs.length - p:=by
  by_cases he:(M.get (bs.drop p)).2.2=0
  ·have:=(hf.1 he).2.2.1;simpa using this
  ·have:=(hf.2 he).2.1;omega
 have hr:rHead bs p=if (M.get (bs.drop p)).2.2=0 then ((spl (M.get (bs.drop p)).1).1,(spl (M.get (bs.drop p)).1).2.1,(spl (M.get (bs.drop p)).1).2.2.toNat,p+(M.get (bs.drop p)).2.1) else (0,0,(M.get (bs.drop p)).2.2,p):=rfl
 have c0:w.cell? ⟨q,0,none⟩=some (.slice A bs.length c):=by simpa using h.blk.cell 0
 have c1:w.cell? ⟨q,1,none⟩=some (.int .i64 (p:Int)):=by simpa using h.blk.cell 1
 clear h
 generalize M.get (bs.drop p)=g at *
 obtain ⟨v,k,e⟩:=g
 simp only at hk hc hf hr
 have HC:=hid hc
 have HST:=hid hst
 clear hc hst
 generalize hN:bs.length=N at *
 have HN:=hid hN
 clear hN
 by_cases he:e=0
 ·subst he
  have hv:=(hf.1 rfl).2.2.2
  rw [if_pos rfl] at hr
  have hsp:=fun w=>rsplit_any (v:Int) w (by omega) (by omega)
  have hse:=spl_err (v:Int)
  rw [hr]
  clear hf hr
  generalize spl (v:Int)=s at *
  obtain ⟨s1,s2,s3⟩:=s
  simp only at hsp hse
  obtain ⟨e3,rfl⟩:∃ n:Nat,s3=(n:Int):=⟨s3.toNat,by omega⟩
  rw [show ((e3:Nat):Int).toNat=e3 from rfl]
  have HS:=hid hsp
  clear hsp
  by_cases h3:e3=0
  ·subst h3
   simp only [plc,if_true]
   clear hse
   by_cases hcp:c=p
   case' pos =>
    obtain rfl:p=c:=hcp.symm
    have hX:cutA A p p=A:=by simp [cutA]
    rw [hX,Nat.sub_self,show N - p=0 from by omega] at HC
   case' neg =>
    have hX:cutA A c p=Option.map (fun x=>x.add p) A:=by simp [cutA,hcp]
    rw [hX] at HC
   all_goals
    clear hX
    go_enter Tryz.func56,Tryz.ntmps56
    go_wp2_with fail
    go_quiet ((go_at_call 84;exact Calls.quiet_of_same (HC.out _)))
    go_wp2_with fail
    refine (HS.out _).mono ?_
    rintro e1 w1 ⟨rfl,rfl⟩
    have hs1:=HST.out.drewN nq
    go_wp2_with fail
    refine (hs1.rfault _).mono ?_
    rintro e1 w2 ⟨rfl,hb2⟩
    have hs2:=hs1.below hb2
    clear hb2 hs1 c0 c1
    have c1:=hs2.c1
    have r1:=hs2.r1
    have ql:=hs2.ql
    have HS2:=hid hs2
    clear hs2
    go_wp2_with fail
    generalize hW:World.alloc _ _=W
    have hs3:=(HS2.out.move (p+k) (by rw [HN.out];omega)).alloc (.cells #[.int .i64 0,.int .i64 (flt 0 p:Nat)] 32)
    push_cast at hs3
    rw [hW] at hs3
    have hbk:=Blk.new (w2.setCell ⟨q,1,none⟩ (.int .i64 ((p:Int)+(k:Int)))) 32 #[.int .i64 0,.int .i64 (flt 0 p:Nat)]
    rw [hW] at hbk
    have e0:W.cell? ⟨w2.heap.size,0,none⟩=some (.int .i64 0):=by simpa using hbk.cell 0
    have e1:W.cell? ⟨w2.heap.size,1,none⟩=some (.int .i64 (flt 0 p:Nat)):=by simpa using hbk.cell 1
    have el:w2.heap.size < W.heap.size:=by simpa using hbk.lt
    have d0:=hs3.d0
    have d1:=hs3.d1
    have f0:=hs3.f0
    have f1:=hs3.f1
    have dl:=hs3.dl
    have HS3:=hid (hs3.drewN 1)
    clear hW hs3 hbk c1 r1
    go_still_tail 5,(by kernel_rfl)
    change wpList _ _ _ _ _ W.drew
    go_wp2_with fail
    exact bodyPost_ret (v:=.tuple #[.int .i64 s1,.int .u8 s2,.agg #[.int .i64 0,.int .i64 (flt 0 p:Nat)]]) (by simp [results,Tryz.results56,go_sem,d0,d1]) rfl ⟨by simp [flt],HS3.out.fin _ _⟩
  ·have heb:((e3:Int) == 0)=false:=by simp;omega
   obtain ⟨rfl,rfl⟩:=hse.2.2 (by omega)
   simp only [plc,h3,if_false]
   clear h3 hse
   by_cases hcp:c=p
   case' pos =>
    obtain rfl:p=c:=hcp.symm
    have hX:cutA A p p=A:=by simp [cutA]
    rw [hX,Nat.sub_self,show N - p=0 from by omega] at HC
   case' neg =>
    have hX:cutA A c p=Option.map (fun x=>x.add p) A:=by simp [cutA,hcp]
    rw [hX] at HC
   all_goals
    clear hX
    go_enter Tryz.func56,Tryz.ntmps56
    go_wp2_with fail
    go_quiet ((go_at_call 84;exact Calls.quiet_of_same (HC.out _)))
    go_wp2_with fail
    refine (HS.out _).mono ?_
    rintro e1 w1 ⟨rfl,rfl⟩
    have hs1:=HST.out.drewN nq
    go_wp2_with fail
    refine (hs1.rfault _).mono ?_
    rintro e1 w2 ⟨rfl,hb2⟩
    have hs2:=hs1.below hb2
    clear hb2 hs1 c0 c1
    have c1:=hs2.c1
    have r1:=hs2.r1
    have ql:=hs2.ql
    have HS2:=hid hs2
    clear hs2
    go_wp2_with fail
    generalize hW:World.alloc _ _=W
    have hs3:=HS2.out.alloc (.cells #[.int .i64 (e3:Int),.int .i64 (flt e3 p:Nat)] 32)
    rw [hW] at hs3
    have hbk:=Blk.new w2 32 #[.int .i64 (e3:Int),.int .i64 (flt e3 p:Nat)]
    rw [hW] at hbk
    have e0:W.cell? ⟨w2.heap.size,0,none⟩=some (.int .i64 (e3:Int)):=hbk.cell 0
    have e1:W.cell? ⟨w2.heap.size,1,none⟩=some (.int .i64 (flt e3 p:Nat)):=hbk.cell 1
    have el:w2.heap.size < W.heap.size:=hbk.lt
    have d0:=hs3.d0
    have d1:=hs3.d1
    have f0:=hs3.f0
    have f1:=hs3.f1
    have dl:=hs3.dl
    have HS3:=hid (hs3.drewN 1)
    clear hW hs3 hbk c1 r1
    go_still_tail 5,(by kernel_rfl)
    change wpList _ _ _ _ _ W.drew
    go_wp2_with fail
    exact bodyPost_ret (v:=.tuple #[.int .i64 0,.int .u8 0,.agg #[.int .i64 (e3:Int),.int .i64 (flt e3 p:Nat)]]) (by simp [results,Tryz.results56,go_sem,d0,d1]) rfl ⟨rfl,HS3.out.fin _ _⟩
 ·have hz:=(hf.2 he).2.1
  have heb:((e:Int) != 0)=true:=by simp;omega
  rw [if_neg he] at hr
  rw [hr]
  simp only [plc,he,if_false]
  clear hr hf he
  by_cases hcp:c=p
  case' pos =>
   obtain rfl:p=c:=hcp.symm
   have hX:cutA A p p=A:=by simp [cutA]
   rw [hX,Nat.sub_self,show N - p=0 from by omega] at HC
  case' neg =>
   have hX:cutA A c p=Option.map (fun x=>x.add p) A:=by simp [cutA,hcp]
   rw [hX] at HC
  all_goals
   clear hX
   go_enter Tryz.func56,Tryz.ntmps56
   go_wp2_with fail
   go_quiet ((go_at_call 84;exact Calls.quiet_of_same (HC.out _)))
   go_wp2_with fail
   have hs1:=HST.out.drewN nq
   refine (hs1.rfault _).mono ?_
   rintro e1 w2 ⟨rfl,hb2⟩
   have hs2:=hs1.below hb2
   clear hb2 hs1 c0 c1
   have d0:=hs2.d0
   have d1:=hs2.d1
   have f0:=hs2.f0
   have f1:=hs2.f1
   have dl:=hs2.dl
   have HS2:=hid hs2
   clear hs2
   go_wp2_with fail
   exact bodyPost_ret (v:=.tuple #[.int .i64 0,.int .u8 0,.agg #[.int .i64 (e:Int),.int .i64 (flt e p:Nat)]]) (by simp [results,Tryz.results56,go_sem,d0,d1]) rfl ⟨rfl,HS2.out.fin _ _⟩
end Go.Proofs.YtpmfdlghckfgiaaGreat
namespace Go.Proofs.YtpmfdlghckfgiaaGreat
open Go.RowKit
theorem rfixed_any (k:Nat) (w:World) (q:Nat) (A:Option Addr) (c:Nat) (bs:List UInt8) (p:Nat) (hk1:1<=k) (hk2:k<=8) (h:Rin 80 w q A c bs p) :
  Calls Tryz.prog 58 #[.pointer (some ⟨q,0,none⟩),.int .i64 (k:Int)] w fun e w'=>e=.returned (.tuple #[.int .u64 ((rFix k bs p).1:Nat),.agg #[.int .i64 ((rFix k bs p).2.1:Nat),.int .i64 (flt (rFix k bs p).2.1 p:Nat)]])/\Rin 80 w' q A c bs (rFix k bs p).2.2/\Only q w w':=by
 have hst:=St.start h
 have hcap:=h.cap
 have hsm:=h.sl.small
 have hle:=h.le
 have hlt:=h.blk.lt
 have c0:w.cell? ⟨q,0,none⟩=some (.slice A bs.length c):=by simpa using h.blk.cell 0
 have c1:w.cell? ⟨q,1,none⟩=some (.int .i64 (p:Int)):=by simpa using h.blk.cell 1
 have hr:rFix k bs p=if bs.length - p < k then (0,4,p) else (unfixN ((bs.drop p).take k),0,p+k):=rfl
 have hun:k<=bs.length - p->∀ (W:World) (n:Nat),St 80 w W q A c bs p->Calls Tryz.prog 87 #[.slice (cutA A c p) (bs.length - p) (c - p),.int .i64 (k:Int)] (W.drewN n) fun e w'=>e=.returned (.int .u64 (unfixN ((bs.drop p).take k)))/\w'=W.drewN n:=by
  intro hk W n hst
  have:=unfix_any (bs.drop p) (cutA A c p) (c - p) k (W.drewN n) hk1 hk2 (by simp;omega) (by simp;omega) ((hst.r.sl.cut p hle).rd.drewN n)
  rw [List.length_drop] at this
  exact this.mono fun _ _ ⟨a,b⟩=>⟨a,b.symm⟩
 have HST:=hid hst
 clear h hst
 generalize hN:bs.length=N at *
 have HN:=hid hN
 clear hN
 by_cases hsh:N - p < k
 ·rw [if_pos hsh] at hr
  rw [hr]
  have hi:(N:Int) - (p:Int) < (k:Int):=by omega
  clear hr hun hsh
  go_enter Tryz.func58,Tryz.ntmps58
  go_wp2_with fail
  go_quiet (fail)
  go_wp2_with fail
  have hs1:=HST.out.drewN nq
  refine (hs1.rfault 4).mono ?_
  rintro e1 w2 ⟨rfl,hb2⟩
  have hs2:=hs1.below hb2
  clear hb2 hs1 c0 c1
  have d0:=hs2.d0
  have d1:=hs2.d1
  have f0:=hs2.f0
  have f1:=hs2.f1
  have dl:=hs2.dl
  have HS2:=hid hs2
  clear hs2
  go_wp2_with fail
  exact bodyPost_ret (v:=.tuple #[.int .u64 0,.agg #[.int .i64 4,.int .i64 (flt 4 p:Nat)]]) (by simp [results,Tryz.results58,go_sem,d0,d1]) rfl ⟨rfl,HS2.out.fin _ _⟩
 ·rw [if_neg hsh] at hr
  rw [hr]
  have hi:¬ (N:Int) - (p:Int) < (k:Int):=by omega
  have hcp:¬ c=p:=by omega
  have hX:cutA A c p=Option.map (fun x=>x.add p) A:=by simp [cutA,hcp]
  have hu:=hun (by omega)
  rw [hX] at hu
  generalize unfixN ((bs.drop p).take k)=v at *
  have HU:=hid hu
  have hpk:p+k<=N:=by omega
  have hpk':(p:Int)+(k:Int)<=9223372036854775807:=by omega
  clear hr hun hX hu hsh
  go_enter Tryz.func58,Tryz.ntmps58
  go_wp2_with fail
  go_quiet (fail)
  go_wp2_with fail
  generalize hW:World.drewN _ nq=W1
  have hs1:St 80 w W1 q A c bs p:=by rw [<-hW];exact HST.out.drewN nq
  clear hW c0 c1
  have c0:=hs1.c0
  rw [HN.out] at c0
  have c1:=hs1.c1
  have r1:=hs1.r1
  have ql:=hs1.ql
  have d0:=hs1.d0
  have d1:=hs1.d1
  have f0:=hs1.f0
  have f1:=hs1.f1
  have dl:=hs1.dl
  have HS1:=hid hs1
  clear hs1
  go_quiet ((go_at_call 87;exact Calls.quiet_of_same (HU.out _ _ HS1.out)))
  have hs1:=HS1.out.drewN nq
  have hs2:=hs1.move (p+k) (by rw [HN.out];exact hpk)
  push_cast at hs2
  have HS2:=hid hs2
  clear hs1 hs2
  go_wp2_with fail
  exact bodyPost_ret (v:=.tuple #[.int .u64 (v:Nat),.agg #[.int .i64 0,.int .i64 0]]) (by simp [results,Tryz.results58,go_sem,d0,d1]) rfl ⟨by simp [flt],HS2.out.fin _ _⟩
theorem rjoin_any (xs:List UInt8) (n:Nat) (A:Option Addr) (c:Nat) (w:World) (hn:xs.length=n) (hl:n<=100000) (hs:Sl w A c (xs.map bv)) :
  Calls Tryz.prog 26 #[.slice A n c,.slice none 0 0] w fun e w'=>∃ v,e=.returned v/\w'.ownsRow w.heap.size 5 1 v n (xs.map bv)/\Below w.heap.size w w':=by
 obtain ⟨i0,hi,hz0,hz1,hz2⟩:=info_parts Tryz.info5
 have hrd:BRd w A xs:=hs.rd
 have HN:=hid hn
 clear hn
 go_enter Tryz.func26,Tryz.ntmps26
 go_wp2
 go_loopw [5,6] (fun v i wr=>∃ k:Nat,k<=n/\i=.int .i64 (k:Int)/\wr.ownsRow w.heap.size 5 1 v k ((xs.take k).map bv)/\Below w.heap.size w wr) (fun _ i _=>n - (intOf i).toNat)
 case atStart=>exact ⟨0,by omega,rfl,World.ownsRow_nil _ _ _ _,Below.refl _ _⟩
 case round =>
  obtain ⟨k,hk,rfl,hrow,hB⟩:=hrel
  by_cases hlt:k < n
  ·have hkl:k < xs.length:=by have:=HN.out;omega
   obtain ⟨b,off,rfl,hb,hc⟩:=BRd.at_ (hrd.below hB) hkl
   have htk:(xs.take (k+1)).map bv=(xs.take k).map bv++[.int .u8 (xs[k].toNat:Int)]:=by
    rw [List.take_succ_eq_append_getElem hkl,List.map_append];rfl
   have HTK:=hid htk
   clear htk
   have hx:=xs[k].toNat_lt
   generalize xs[k].toNat=y at *
   have hszr:=hB.size
   go_wp2_with (at_builtin;refine wpList_append_own _ rfl _ _ 22 rfl w.heap.size 5 i0 (.int .u8 0) 1 1 Tryz.underlying22 hi hz0 hz1 hz2 rfl (by decide) _ _ _ rfl (hrow.alloc _) ⟨wr.heap.size,0,none⟩ 1 1 [.int .u8 (y:Int)] rfl rfl (cell_one_new _ _ _) (by simp [Value.oneCell']) (by simp only [maxLen];omega) (by omega) (by simp;omega) ?_;intro v' w3 hown' hgrow' _)
   go_roundw
   case rel=>exact ⟨k+1,by omega,by go_num,by rw [HTK.out];exact hown',(hB.alloc (by omega) _).grown hgrow' (by simp;omega) fun g eg=>(hrow.lt g eg).1⟩
   case measure=>simp [intOf];omega
  ·obtain rfl:k=n:=by omega
   rw [List.take_of_length_le (by have:=HN.out;omega)] at hrow
   go_wp2
   go_loopw [5,7] (fun v i w'=>i=.int .i64 0/\w'.ownsRow w.heap.size 5 1 v k (xs.map bv)/\Below w.heap.size w w') (fun _ i _=>0)
   case atStart=>exact ⟨rfl,hrow,hB⟩
   case round =>
    obtain ⟨rfl,hrow2,hB2⟩:=hrel
    go_wp2
    go_ret
    exact ⟨_,rfl,hrow2,hB2⟩
end Go.Proofs.YtpmfdlghckfgiaaGreat
namespace Go.Proofs.YtpmfdlghckfgiaaGreat
open Go.RowKit
theorem rjoin_at (xs:List UInt8) (n:Nat) (A:Option Addr) (c:Nat) (w:World) (hn:xs.length=n) (hl:n<=100000) (hs:Sl w A c (xs.map bv)) (B:Nat) (hB:B<=w.heap.size) :
  Calls Tryz.prog 26 #[.slice A n c,.slice none 0 0] w fun e w'=>∃ A' c',e=.returned (.slice A' n c')/\Sl w' A' c' (xs.map bv)/\(∀ g,g < B->Far A' n g)/\Below w.heap.size w w':=by
 refine (rjoin_any xs n A c w hn hl hs).mono ?_
 rintro e w' ⟨v,rfl,ho,hb⟩
 obtain ⟨A',c',rfl,hl',hs'⟩:=Sl.of_own ho
 refine ⟨A',c',rfl,hs',fun g hg hpos b off he=>?_,hb⟩
 have hbk:=(ho.lt b (by subst he;rfl)).1
 omega
theorem rtake_any (n:Int) (w:World) (q:Nat) (A:Option Addr) (c:Nat) (bs:List UInt8) (p:Nat) (hn1 : -9223372036854775808<=n) (hn2:n<=9223372036854775807) (hbl:bs.length<=100000) (h:Rin 80 w q A c bs p) :
  Calls Tryz.prog 88 #[.pointer (some ⟨q,0,none⟩),.int .i64 n] w fun e w'=>∃ A' c',e=.returned (.tuple #[.slice A' (rTake n bs p).1.length c',.agg #[.int .i64 ((rTake n bs p).2.1:Nat),.int .i64 (flt (rTake n bs p).2.1 p:Nat)]])/\Sl w' A' c' ((rTake n bs p).1.map bv)/\(∀ g,g < w.heap.size->Far A' (rTake n bs p).1.length g)/\Rin 80 w' q A c bs (rTake n bs p).2.2/\Only q w w':=by
 have hst:=St.start h
 have hcap:=h.cap
 have hsm:=h.sl.small
 have hle:=h.le
 have hlt:=h.blk.lt
 have c0:w.cell? ⟨q,0,none⟩=some (.slice A bs.length c):=by simpa using h.blk.cell 0
 have c1:w.cell? ⟨q,1,none⟩=some (.int .i64 (p:Int)):=by simpa using h.blk.cell 1
 have HST:=hid hst
 clear h hst
 by_cases a1:n < 0
 ·rw [rTake_neg a1]
  go_enter Tryz.func88,Tryz.ntmps88
  go_wp2_with fail
  refine (HST.out.rfault 1).mono ?_
  rintro e1 w2 ⟨rfl,hb2⟩
  have hs2:=HST.out.below hb2
  clear hb2 c0 c1
  have d0:=hs2.d0
  have d1:=hs2.d1
  have f0:=hs2.f0
  have f1:=hs2.f1
  have dl:=hs2.dl
  have HS2:=hid hs2
  clear hs2
  go_wp2_with fail
  exact bodyPost_ret (v:=.tuple #[.slice none 0 0,.agg #[.int .i64 1,.int .i64 (flt 1 p:Nat)]]) (by simp [results,Tryz.results88,go_sem,d0,d1]) rfl ⟨none,0,rfl,Sl.nil_ _,(fun g _ hp=>by simp at hp),HS2.out.fin _ _⟩
 by_cases a2:((bs.length - p:Nat):Int) < n
 ·rw [rTake_short a1 a2]
  generalize hN:bs.length=N at *
  have HN:=hid hN
  clear hN
  have hi:(N:Int) - (p:Int) < n:=by omega
  clear a2
  go_enter Tryz.func88,Tryz.ntmps88
  go_wp2_with fail
  go_quiet (fail)
  go_wp2_with fail
  have hs1:=HST.out.drewN nq
  refine (hs1.rfault 4).mono ?_
  rintro e1 w2 ⟨rfl,hb2⟩
  have hs2:=hs1.below hb2
  clear hb2 hs1 c0 c1
  have d0:=hs2.d0
  have d1:=hs2.d1
  have f0:=hs2.f0
  have f1:=hs2.f1
  have dl:=hs2.dl
  have HS2:=hid hs2
  clear hs2
  go_wp2_with fail
  exact bodyPost_ret (v:=.tuple #[.slice none 0 0,.agg #[.int .i64 4,.int .i64 (flt 4 p:Nat)]]) (by simp [results,Tryz.results88,go_sem,d0,d1]) rfl ⟨none,0,rfl,Sl.nil_ _,(fun g _ hp=>by simp at hp),HS2.out.fin _ _⟩
 ·rw [rTake_ok a1 a2]
  obtain ⟨m,rfl⟩:∃ m:Nat,n=(m:Int):=⟨n.toNat,by omega⟩
  have hm:p+m<=bs.length:=by omega
  rw [show (m:Int).toNat=m from rfl]
  have hlen:((bs.drop p).take m).length=m:=by simp;omega
  rw [hlen]
  have hpl:p<=bs.length:=by omega
  have hjoin:∀ (W:World) (k:Nat),St 80 w W q A c bs p->Calls Tryz.prog 26 #[.slice (cutA A c p) m (c - p),.slice none 0 0] (W.drewN k) fun e w'=>∃ A' c',e=.returned (.slice A' m c')/\Sl w' A' c' (((bs.drop p).take m).map bv)/\(∀ g,g < W.heap.size->Far A' m g)/\Below (W.drewN k).heap.size (W.drewN k) w':=by
   intro W k hst
   have hs:=(hst.r.sl.cut p hpl).drewN k
   have hs2:Sl (W.drewN k) (cutA A c p) (c - p) (((bs.drop p).take m).map bv):=⟨by simp;omega,hs.small,hs.nil0,by have:=hs.rd.take m;rwa [<-List.map_take] at this⟩
   exact rjoin_at _ m _ _ _ hlen (by omega) hs2 W.heap.size (Nat.le_refl _)
  have HLEN:=hid hlen
  have HJ:=hid hjoin
  clear hlen hjoin hpl
  generalize hN:bs.length=N at *
  have HN:=hid hN
  clear hN
  have hi:¬ (N:Int) - (p:Int) < (m:Int):=by omega
  have hpm:(p:Int)+(m:Int)<=(c:Int):=by omega
  have hpm2:(p:Int)<=(p:Int)+(m:Int):=by omega
  have hpm3:p+m<=c:=by omega
  clear a2
  by_cases hcp:c=p
  case' pos =>
   obtain rfl:p=c:=hcp.symm
   obtain rfl:m=0:=by omega
   have hX:cutA A p p=A:=by simp [cutA]
   rw [hX,Nat.sub_self] at HJ
   have hw1:IntKind.i64.wrap (p:Int)=(p:Int):=IntWalk.i64_in _ (by omega)
  case' neg =>
   have hX:cutA A c p=Option.map (fun x=>x.add p) A:=by simp [cutA,hcp]
   rw [hX] at HJ
   have hw1:IntKind.i64.wrap ((p:Int)+(m:Int))=(p:Int)+(m:Int):=IntWalk.i64_in _ (by omega)
   have hw2:((p:Int)+(m:Int)).toNat=p+m:=by omega
   have hw3:(0:Int)<=(p:Int)+(m:Int):=by omega
  all_goals
   clear hX
   go_enter Tryz.func88,Tryz.ntmps88
   go_wp2_with fail
   go_quiet (fail)
   go_wp2_with fail
   generalize hW:World.drewN _ nq=W1
   have hs1:=HST.out.drewN nq
   rw [hW] at hs1
   have hp0:(0:Int)<=(p:Int):=by omega
   clear hW c0 c1
   have c0:=hs1.c0
   rw [HN.out] at c0
   have c1:=hs1.c1
   have ql:=hs1.ql
   have HS1:=hid hs1
   clear hs1
   first
   | go_region_held3 (fun W=>W.cell? ⟨q,0,none⟩=some (.slice A N c)/\W.cell? ⟨q,1,none⟩=some (.int .i64 (p:Int))) (first | go_keep | exact ⟨(hbj.cell (p:=⟨q,0,none⟩) ql).trans c0,(hbj.cell (p:=⟨q,1,none⟩) ql).trans c1⟩) (first | (go_at_call 26;refine (HJ.out W1 1 HS1.out).mono ?_;rintro e1 w2 ⟨A2,c2,rfl,hs2,hf2,hbj⟩))
   | go_region_held3 (fun W=>W.cell? ⟨q,0,none⟩=some (.slice A N p)/\W.cell? ⟨q,1,none⟩=some (.int .i64 (p:Int))) (first | go_keep | exact ⟨(hbj.cell (p:=⟨q,0,none⟩) ql).trans c0,(hbj.cell (p:=⟨q,1,none⟩) ql).trans c1⟩) (first | (go_at_call 26;refine (HJ.out W1 1 HS1.out).mono ?_;rintro e1 w2 ⟨A2,c2,rfl,hs2,hf2,hbj⟩))
   have hs3:=(HS1.out.drewN 1).below hbj
   have hfq:=hf2 q HS1.out.ql
   have hff:=hf2 w.heap.size HS1.out.dl
   have hfa:=fun g (hg:g < w.heap.size)=>hf2 g (Nat.lt_trans hg HS1.out.dl)
   have HFA:=hid hfa
   clear hfa
   clear c0 c1 ql hbj hf2
   have c1:=hs3.c1
   have r1:=hs3.r1
   have ql:=hs3.ql
   have d0:=hs3.d0
   have d1:=hs3.d1
   have f0:=hs3.f0
   have f1:=hs3.f1
   have dl:=hs3.dl
   have HS3:=hid hs3
   have HSL:=hid hs2
   have HFQ:=hid hfq
   have HFF:=hid hff
   clear hs3 hs2 hfq hff
   go_wp2_with fail
  ·have hs4:=HS3.out.move (p+m) (by rw [HN.out];exact hm)
   push_cast at hs4
   refine bodyPost_ret (v:=.tuple #[.slice A2 m c2,.agg #[.int .i64 0,.int .i64 0]]) (by simp [results,Tryz.results88,go_sem,d0,d1]) rfl ⟨A2,c2,by simp [flt],?_,HFA.out,hs4.fin _ _⟩
   have s1:=((Only.refl q w2).set_ 1 (.int .i64 ((p:Int)+(m:Int)))).sl HSL.out HFQ.out (by rw [List.length_map];exact HLEN.out)
   have s2:=((Only.refl w.heap.size _).set_ 0 (.int .i64 0)).sl s1 HFF.out (by rw [List.length_map];exact HLEN.out)
   exact ((Only.refl w.heap.size _).set_ 1 (.int .i64 0)).sl s2 HFF.out (by rw [List.length_map];exact HLEN.out)
  ·have hs4:=HS3.out.move (p+0) (by rw [HN.out];exact hm)
   push_cast at hs4
   refine bodyPost_ret (v:=.tuple #[.slice A2 0 c2,.agg #[.int .i64 0,.int .i64 0]]) (by simp [results,Tryz.results88,go_sem,d0,d1]) rfl ⟨A2,c2,by simp [flt],?_,HFA.out,by simpa using hs4.fin (.int .i64 0) (.int .i64 0)⟩
   have s1:=((Only.refl q w2).set_ 1 (.int .i64 (p:Int))).sl HSL.out HFQ.out (by rw [List.length_map];exact HLEN.out)
   have s2:=((Only.refl w.heap.size _).set_ 0 (.int .i64 0)).sl s1 HFF.out (by rw [List.length_map];exact HLEN.out)
   exact ((Only.refl w.heap.size _).set_ 1 (.int .i64 0)).sl s2 HFF.out (by rw [List.length_map];exact HLEN.out)
end Go.Proofs.YtpmfdlghckfgiaaGreat
namespace Go.Proofs.YtpmfdlghckfgiaaGreat
open Go.RowKit
end Go.Proofs.YtpmfdlghckfgiaaGreat
namespace Go.Proofs.YtpmfdlghckfgiaaGreat
open Go.RowKit
theorem rbytesf_any (most:Int) (w:World) (q:Nat) (A:Option Addr) (c:Nat) (bs:List UInt8) (p:Nat) (hn1 : -9223372036854775808<=most) (hn2:most<=9223372036854775807) (hbl:bs.length<=100000) (h:Rin 80 w q A c bs p) :
  Calls Tryz.prog 59 #[.pointer (some ⟨q,0,none⟩),.int .i64 most] w fun e w'=>∃ A' c',e=.returned (.tuple #[.slice A' (if (rCount most bs p).2.1=0 then (rCount most bs p).1 else []).length c',.agg #[.int .i64 ((rCount most bs p).2.1:Nat),.int .i64 (flt (rCount most bs p).2.1 p:Nat)]])/\Sl w' A' c' ((if (rCount most bs p).2.1=0 then (rCount most bs p).1 else []).map bv)/\(∀ g,g < w.heap.size->Far A' (if (rCount most bs p).2.1=0 then (rCount most bs p).1 else []).length g)/\Rin 80 w' q A c bs (plc (rCount most bs p).2.1 p (rCount most bs p).2.2)/\Only q w w':=by
 have hst:=St.start h
 have hcap:=h.cap
 have hsm:=h.sl.small
 have hle:=h.le
 have hlt:=h.blk.lt
 have hc:=rget_rest hst.r
 have hf:=M.get_facts (bs.drop p)
 have hr:rCount most bs p=if (M.get (bs.drop p)).2.2 ≠ 0 then ([],(M.get (bs.drop p)).2.2,p)
  else if most < 0\/most < ((M.get (bs.drop p)).1:Int) then ([],2,p+(M.get (bs.drop p)).2.1)
  else rTake ((M.get (bs.drop p)).1:Int) bs (p+(M.get (bs.drop p)).2.1):=rfl
 have c0:w.cell? ⟨q,0,none⟩=some (.slice A bs.length c):=by simpa using h.blk.cell 0
 have c1:w.cell? ⟨q,1,none⟩=some (.int .i64 (p:Int)):=by simpa using h.blk.cell 1
 clear h
 generalize M.get (bs.drop p)=g at *
 obtain ⟨v,k,e⟩:=g
 simp only at hc hf hr
 have HC:=hid hc
 have HST:=hid hst
 clear hc hst
 by_cases he:e=0
 ·subst he
  obtain ⟨hk1,_,hk2,hv⟩:=hf.1 rfl
  simp only [List.length_drop] at hk2
  rw [if_neg (by simp)] at hr
  have hcp:¬ c=p:=by omega
  have hX:cutA A c p=Option.map (fun x=>x.add p) A:=by simp [cutA,hcp]
  rw [hX] at HC
  clear hX hf
  by_cases a1:most < 0
  ·rw [if_pos (.inl a1)] at hr
   rw [hr]
   simp only [plc,if_false,show (2:Nat)=0 ↔ False from by simp]
   clear hr
   generalize hN:bs.length=N at *
   have HN:=hid hN
   clear hN
   go_enter Tryz.func59,Tryz.ntmps59
   go_wp2_with fail
   go_quiet ((go_at_call 84;exact Calls.quiet_of_same (HC.out _)))
   go_wp2_with fail
   have hs1:=HST.out.drewN nq
   refine (hs1.rfault 2).mono ?_
   rintro e1 w2 ⟨rfl,hb2⟩
   have hs2:=hs1.below hb2
   clear hb2 hs1 c0 c1
   have d0:=hs2.d0
   have d1:=hs2.d1
   have f0:=hs2.f0
   have f1:=hs2.f1
   have dl:=hs2.dl
   have HS2:=hid hs2
   clear hs2
   go_wp2_with fail
   exact bodyPost_ret (v:=.tuple #[.slice none 0 0,.agg #[.int .i64 2,.int .i64 (flt 2 p:Nat)]]) (by simp [results,Tryz.results59,go_sem,d0,d1]) rfl ⟨none,0,by simp,Sl.nil_ _,fun _ _ hp=>absurd hp (by simp),HS2.out.fin _ _⟩
  obtain ⟨mo,rfl⟩:∃ mo:Nat,most=(mo:Int):=⟨most.toNat,by omega⟩
  have hmo:0<=(mo:Int):=by omega
  by_cases a2:mo < v
  ·rw [if_pos (.inr (by omega))] at hr
   rw [hr]
   simp only [plc,if_false,show (2:Nat)=0 ↔ False from by simp]
   clear hr
   generalize hN:bs.length=N at *
   have HN:=hid hN
   clear hN
   go_enter Tryz.func59,Tryz.ntmps59
   go_wp2_with fail
   go_quiet ((go_at_call 84;exact Calls.quiet_of_same (HC.out _)))
   go_wp2_with fail
   have hs1:=HST.out.drewN nq
   refine (hs1.rfault 2).mono ?_
   rintro e1 w2 ⟨rfl,hb2⟩
   have hs2:=hs1.below hb2
   clear hb2 hs1 c0 c1
   have d0:=hs2.d0
   have d1:=hs2.d1
   have f0:=hs2.f0
   have f1:=hs2.f1
   have dl:=hs2.dl
   have HS2:=hid hs2
   clear hs2
   go_wp2_with fail
   exact bodyPost_ret (v:=.tuple #[.slice none 0 0,.agg #[.int .i64 2,.int .i64 (flt 2 p:Nat)]]) (by simp [results,Tryz.results59,go_sem,d0,d1]) rfl ⟨none,0,by simp,Sl.nil_ _,fun _ _ hp=>absurd hp (by simp),HS2.out.fin _ _⟩
  rw [if_neg (by omega)] at hr
  rw [hr]
  have hv2:(v:Int)<=9223372036854775807:=by omega
  by_cases a3:bs.length - (p+k) < v
  ·rw [rTake_short (by omega) (by omega)]
   simp only [plc,if_false,show (4:Nat)=0 ↔ False from by simp]
   clear hr
   have hi:(bs.length:Int) - (p:Int) - (k:Int) < (v:Int):=by omega
   have hi0:(0:Int)<=(bs.length:Int) - (p:Int) - (k:Int):=by omega
   generalize hN:bs.length=N at *
   have HN:=hid hN
   clear hN
   go_enter Tryz.func59,Tryz.ntmps59
   go_wp2_with fail
   go_quiet ((go_at_call 84;exact Calls.quiet_of_same (HC.out _)))
   go_wp2_with fail
   generalize hW:World.drewN _ nq=W1
   have hs1:=HST.out.drewN nq
   rw [hW] at hs1
   clear hW c0 c1
   have c0:=hs1.c0
   rw [HN.out] at c0
   have c1:=hs1.c1
   have ql:=hs1.ql
   have HS1:=hid hs1
   clear hs1
   go_quiet (fail)
   go_wp2_with fail
   have hs1:=HS1.out.drewN nq
   refine (hs1.rfault 4).mono ?_
   rintro e1 w2 ⟨rfl,hb2⟩
   have hs2:=hs1.below hb2
   clear hb2 hs1 c0 c1
   have d0:=hs2.d0
   have d1:=hs2.d1
   have f0:=hs2.f0
   have f1:=hs2.f1
   have dl:=hs2.dl
   have HS2:=hid hs2
   clear hs2
   go_wp2_with fail
   exact bodyPost_ret (v:=.tuple #[.slice none 0 0,.agg #[.int .i64 4,.int .i64 (flt 4 p:Nat)]]) (by simp [results,Tryz.results59,go_sem,d0,d1]) rfl ⟨none,0,by simp,Sl.nil_ _,fun _ _ hp=>absurd hp (by simp),HS2.out.fin _ _⟩
  ·have htk:=rTake_ok (n:=(v:Int)) (bs:=bs) (p:=p+k) (by omega) (by omega)
   have hi:¬ (bs.length:Int) - (p:Int) - (k:Int) < (v:Int):=by omega
   have hi0:(0:Int)<=(bs.length:Int) - (p:Int) - (k:Int):=by omega
   have hpk:p+k<=bs.length:=by omega
   have htake:=fun W hr=>rtake_any (v:Int) W q A c bs (p+k) (by omega) hv2 hbl hr
   rw [htk] at htake ⊢
   simp only [plc,if_true,flt] at htake ⊢
   have HT:=hid htake
   clear hr htk htake
   generalize hN:bs.length=N at *
   have HN:=hid hN
   clear hN
   generalize (bs.drop (p+k)).take (v:Int).toNat=l at *
   generalize p+k+(v:Int).toNat=p2 at *
   go_enter Tryz.func59,Tryz.ntmps59
   go_wp2_with fail
   go_quiet ((go_at_call 84;exact Calls.quiet_of_same (HC.out _)))
   go_wp2_with fail
   generalize hW:World.drewN _ nq=W1
   have hs1:=HST.out.drewN nq
   rw [hW] at hs1
   clear hW c0 c1
   have c0:=hs1.c0
   rw [HN.out] at c0
   have c1:=hs1.c1
   have ql:=hs1.ql
   have HS1:=hid hs1
   clear hs1
   go_quiet (fail)
   have hs1:=HS1.out.drewN nq
   have r1:=HS1.out.r1
   have hs2:=hs1.move (p+k) (by rw [HN.out];exact hpk)
   push_cast at hs2
   have HS2:=hid hs2
   clear hs1 hs2
   go_wp2_with fail
   refine (HT.out _ HS2.out.r).mono ?_
   rintro e1 w3 ⟨A3,c3,rfl,hs3,hf3,hr3,ho3⟩
   have hst3:=HS2.out.only ho3 hr3
   clear c0 c1 r1
   have d0:=hst3.d0
   have d1:=hst3.d1
   have f0:=hst3.f0
   have f1:=hst3.f1
   have dl:=hst3.dl
   have HS3:=hid hst3
   have hff:=hf3 w.heap.size HS2.out.dl
   have hfw:=fun g (hg:g < w.heap.size)=>hf3 g (Nat.lt_trans hg HS2.out.dl)
   have HFW:=hid hfw
   clear hfw
   have HSL:=hid hs3
   have HFF:=hid hff
   clear hst3 hs3 hr3 ho3 hf3 hff
   go_wp2_with fail
   refine bodyPost_ret (v:=.tuple #[.slice A3 l.length c3,.agg #[.int .i64 0,.int .i64 0]]) (by simp [results,Tryz.results59,go_sem,d0,d1,dl]) rfl ⟨A3,c3,rfl,?_,HFW.out,?_⟩
   ·have s1:=((Only.refl w.heap.size w3).set_ 0 (.int .i64 0)).sl HSL.out HFF.out (by simp)
    have s2:=((Only.refl w.heap.size _).set_ 1 (.int .i64 0)).sl s1 HFF.out (by simp)
    exact s2.below ((Below.refl _ _).alloc (Nat.le_refl _) _)
   ·have hfi:=HS3.out.fin (.int .i64 0) (.int .i64 0)
    exact ⟨hfi.1.below ((Below.refl _ _).alloc (Nat.le_refl _) _),hfi.2.alloc _⟩
 ·have hz:=(hf.2 he).2.1
  have heb:((e:Int) != 0)=true:=by simp;omega
  rw [if_pos he] at hr
  rw [hr]
  simp only [plc,he,if_false]
  generalize hN:bs.length=N at *
  have HN:=hid hN
  clear hN
  clear hr hf he
  by_cases hcp:c=p
  case' pos =>
   obtain rfl:p=c:=hcp.symm
   have hX:cutA A p p=A:=by simp [cutA]
   rw [hX,Nat.sub_self,show N - p=0 from by omega] at HC
  case' neg =>
   have hX:cutA A c p=Option.map (fun x=>x.add p) A:=by simp [cutA,hcp]
   rw [hX] at HC
  all_goals
   clear hX
   go_enter Tryz.func59,Tryz.ntmps59
   go_wp2_with fail
   go_quiet ((go_at_call 84;exact Calls.quiet_of_same (HC.out _)))
   go_wp2_with fail
   have hs1:=HST.out.drewN nq
   refine (hs1.rfault e).mono ?_
   rintro e1 w2 ⟨rfl,hb2⟩
   have hs2:=hs1.below hb2
   clear hb2 hs1 c0 c1
   have d0:=hs2.d0
   have d1:=hs2.d1
   have f0:=hs2.f0
   have f1:=hs2.f1
   have dl:=hs2.dl
   have HS2:=hid hs2
   clear hs2
   go_wp2_with fail
   exact bodyPost_ret (v:=.tuple #[.slice none 0 0,.agg #[.int .i64 (e:Int),.int .i64 (flt e p:Nat)]]) (by simp [results,Tryz.results59,go_sem,d0,d1]) rfl ⟨none,0,by simp,Sl.nil_ _,fun _ _ hp=>absurd hp (by simp),HS2.out.fin _ _⟩
end Go.Proofs.YtpmfdlghckfgiaaGreat
namespace Go.Proofs.YtpmfdlghckfgiaaGreat
open Go.RowKit
theorem rjoin2_own (xs ys:List UInt8) (n m:Nat) (A B:Option Addr) (c d:Nat) (w:World) (hn:xs.length=n) (hm:ys.length=m) (hl:n+m<=10000000) (hs:Sl w A c (xs.map bv)) (ht:Sl w B d (ys.map bv)) :
  Calls Tryz.prog 26 #[.slice A n c,.slice B m d] w fun e w'=>∃ v,e=.returned v/\w'.ownsRow w.heap.size 5 1 v (n+m) ((xs++ys).map bv)/\Below w.heap.size w w':=by
 obtain ⟨i0,hi,hz0,hz1,hz2⟩:=info_parts Tryz.info5
 have hrd:BRd w A xs:=hs.rd
 have hrd2:BRd w B ys:=ht.rd
 have HN:=hid hn
 have HM:=hid hm
 clear hn hm
 go_enter Tryz.func26,Tryz.ntmps26
 go_wp2
 go_loopw [5,6] (fun v i wr=>∃ k:Nat,k<=n/\i=.int .i64 (k:Int)/\wr.ownsRow w.heap.size 5 1 v k ((xs.take k).map bv)/\Below w.heap.size w wr) (fun _ i _=>n - (intOf i).toNat)
 case atStart=>exact ⟨0,by omega,rfl,World.ownsRow_nil _ _ _ _,Below.refl _ _⟩
 case round =>
  obtain ⟨k,hk,rfl,hrow,hB⟩:=hrel
  by_cases hlt:k < n
  ·have hkl:k < xs.length:=by have:=HN.out;omega
   obtain ⟨b,off,rfl,hb,hc⟩:=BRd.at_ (hrd.below hB) hkl
   have htk:(xs.take (k+1)).map bv=(xs.take k).map bv++[.int .u8 (xs[k].toNat:Int)]:=by
    rw [List.take_succ_eq_append_getElem hkl,List.map_append];rfl
   have HTK:=hid htk
   clear htk
   have hx:=xs[k].toNat_lt
   generalize xs[k].toNat=y at *
   have hszr:=hB.size
   go_wp2_with (at_builtin;refine wpList_append_own _ rfl _ _ 22 rfl w.heap.size 5 i0 (.int .u8 0) 1 1 Tryz.underlying22 hi hz0 hz1 hz2 rfl (by decide) _ _ _ rfl (hrow.alloc _) ⟨wr.heap.size,0,none⟩ 1 1 [.int .u8 (y:Int)] rfl rfl (cell_one_new _ _ _) (by simp [Value.oneCell']) (by simp only [maxLen];omega) (by omega) (by simp;omega) ?_;intro v' w3 hown' hgrow' _)
   go_roundw
   case rel=>exact ⟨k+1,by omega,by go_num,by rw [HTK.out];exact hown',(hB.alloc (by omega) _).grown hgrow' (by simp;omega) fun g eg=>(hrow.lt g eg).1⟩
   case measure=>simp [intOf];omega
  ·obtain rfl:k=n:=by omega
   rw [List.take_of_length_le (by have:=HN.out;omega)] at hrow
   go_wp2
   go_loopw [5,7] (fun v i wr=>∃ j:Nat,j<=m/\i=.int .i64 (j:Int)/\wr.ownsRow w.heap.size 5 1 v (k+j) (xs.map bv++(ys.take j).map bv)/\Below w.heap.size w wr) (fun _ i _=>m - (intOf i).toNat)
   case atStart=>exact ⟨0,by omega,rfl,by simpa using hrow,hB⟩
   case round =>
    obtain ⟨j,hj,rfl,hrow2,hB2⟩:=hrel
    by_cases hlt2:j < m
    ·have hjl:j < ys.length:=by have:=HM.out;omega
     obtain ⟨b,off,rfl,hb,hc⟩:=BRd.at_ (hrd2.below hB2) hjl
     have htk:xs.map bv++(ys.take (j+1)).map bv=(xs.map bv++(ys.take j).map bv)++[.int .u8 (ys[j].toNat:Int)]:=by
      rw [List.take_succ_eq_append_getElem hjl,List.map_append,List.append_assoc];rfl
     have HTK:=hid htk
     clear htk
     have hx:=ys[j].toNat_lt
     generalize ys[j].toNat=y at *
     have hszr:=hB2.size
     go_wp2_with (at_builtin;refine wpList_append_own _ rfl _ _ 22 rfl w.heap.size 5 i0 (.int .u8 0) 1 1 Tryz.underlying22 hi hz0 hz1 hz2 rfl (by decide) _ _ _ rfl (hrow2.alloc _) ⟨wr.heap.size,0,none⟩ 1 1 [.int .u8 (y:Int)] rfl rfl (cell_one_new _ _ _) (by simp [Value.oneCell']) (by simp only [maxLen];omega) (by omega) (by simp;omega) ?_;intro v' w3 hown' hgrow' _)
     go_roundw
     case rel=>exact ⟨j+1,by omega,by go_num,by rw [HTK.out,<-Nat.add_assoc];exact hown',(hB2.alloc (by omega) _).grown hgrow' (by simp;omega) fun g eg=>(hrow2.lt g eg).1⟩
     case measure=>simp [intOf];omega
    ·obtain rfl:j=m:=by omega
     rw [List.take_of_length_le (by have:=HM.out;omega),<-List.map_append] at hrow2
     go_wp2
     go_ret
     exact ⟨_,rfl,hrow2,hB2⟩
theorem rjoin2_any (xs ys:List UInt8) (n m:Nat) (A B:Option Addr) (c d:Nat) (w:World) (hn:xs.length=n) (hm:ys.length=m) (hl:n+m<=10000000) (hs:Sl w A c (xs.map bv)) (ht:Sl w B d (ys.map bv)) :
  Calls Tryz.prog 26 #[.slice A n c,.slice B m d] w fun e w'=>∃ A' c',e=.returned (.slice A' (n+m) c')/\Sl w' A' c' ((xs++ys).map bv)/\(∀ b o,A'=some ⟨b,o,none⟩->w.heap.size<=b)/\Below w.heap.size w w' :=
 (rjoin2_own xs ys n m A B c d w hn hm hl hs ht).mono fun _ _ ⟨v,he,ho,hb⟩=>by
  obtain ⟨A',c',rfl,-,hsl⟩:=Sl.of_own ho
  exact ⟨A',c',he,hsl,fun b o he=>(ho.lt b (by rw [he];rfl)).1,hb⟩
end Go.Proofs.YtpmfdlghckfgiaaGreat
