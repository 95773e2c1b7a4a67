/- encode.parts: the fields of a field that · What must be whatever is asked: layer 9. · The mathematics of ValueGrows: what a lat -/
import Derived.Test.YtpmfdlghckfgiaaGreatV3
import Derived.Test.YtpmfdlghckfgiaaGreatSk2
import Derived.Test.YtpmfdlghckfgiaaGreatV2
import Derived.Lib.ConvBytes
import Derived.Test.YtpmfdlghckfgiaaGreatSc2
set_option linter.unusedVariables false
set_option maxRecDepth 100000
set_option maxHeartbeats 16000000
namespace Go.Proofs.YtpmfdlghckfgiaaGreat
open Go.RowKit
def partW (m:MV) (num t i:Int):List (Int × Int × Nat × List UInt8):=if t=10 then m.l.map (fun s=>(num,2,0,s.data.toList)) else if 7<=t/\t<=9 then [(num,2,0,(m.text i).data.toList)] else if t=3 then [(num,0,(zig (wrap64 (m.num i:Nat))).toNat,[])] else [(num,(wireN t:Nat),m.num i,[])]
def fvW (f:FV):Int × Int × Nat × List UInt8:=(f.num,f.w,f.n,f.s.xs)
theorem own_one {w:World} {B g:Nat} {f:FV} (hg:B<=g) (hk:Blk w g 61 (fvC f).toArray):w.ownsRow B 61 5 (.slice (some ⟨g,0,none⟩) 1 1) 1 ([f].flatMap fvC):=by
 refine ⟨by simp [fvC],.inr ⟨g,1,_,rfl,hg,hk,Nat.le_refl 1,by decide,by simp [fvC],?_⟩⟩
 simp [fvC]
def PartsR (m:MV) (num t i:Int) (w:World) (e:Ending) (w':World):Prop:=∃ (l:List FV) (v:Value),e=.returned v/\w'.ownsRow w.heap.size 61 5 v l.length (l.flatMap fvC)/\l.map fvW=partW m num t i/\(∀ f ∈ l,FvOk w' f)/\Below w.heap.size w w'
theorem blk_top {W:World} {g:Nat} {t:TypeId} {cs:Array Value} (h:W.heap.size=g):Blk (W.alloc (.cells cs t)) g t cs:=by rw [<-h];exact Blk.new W t cs
theorem parts_fin {w W:World} {m:MV} {num t i:Int} {wi q g:Nat} (hpw:partW m num t i=[(num,(wi:Int),q,[])]) (hwi:wi<=5) (hq:q<=18446744073709551615) (hn1 : -9223372036854775808<=num) (hn2:num<=9223372036854775807) (hB:Below w.heap.size w W) (hg:w.heap.size<=g) (hk:Blk W g 61 #[.int .i64 num,.int .u8 (wi:Int),.int .u64 (q:Int),.slice none 0 0,.int .i64 0]):PartsR m num t i w (.returned (.slice (some ⟨g,0,none⟩) 1 1)) W:=by
 refine ⟨[⟨num,(wi:Int),q,⟨none,0,[]⟩,0⟩],_,rfl,own_one hg hk,by rw [hpw];rfl,fun f hf=>?_,hB⟩
 simp only [List.mem_singleton] at hf
 subst hf
 exact ⟨by dsimp only;omega,by dsimp only;omega,hq,hn1,hn2,by dsimp only;omega,by dsimp only;omega,Sl.nil_ W⟩
theorem parts_num (m:MV) (num t:Int) (i:Nat) (w:World) (hok:MvOk w m) (hi:i<=5) (ht:t=1\/t=2\/t=4\/t=5\/t=6) (hn1 : -9223372036854775808<=num) (hn2:num<=9223372036854775807) :
  Calls Tryz.prog 83 #[mvV m,.agg #[.int .i64 num,.int .i64 t,.int .i64 (i:Int)]] w (PartsR m num t i w):=by
 have hx:=hok.n (i:Int)
 have hpw:partW m num t (i:Int)=[(num,((wireN t:Nat):Int),m.num (i:Int),[])]:=by
  unfold partW
  rw [if_neg (by omega),if_neg (by omega),if_neg (by omega)]
 have hww:wireN t<=5:=by unfold wireN;split;omega;split;omega;split <;> omega
 obtain ⟨R,hR⟩:∃ R,PartsR m num t i w=R:=⟨_,rfl⟩
 rw [hR]
 have HR:=hid hR
 have hwi:=fun W=>swire_any t W
 have HPW:=hid hpw
 clear hR hpw hok
 generalize wireN t=wi at *
 generalize wireK t=wk at *
 have hmi:m.num (i:Int)=[m.n0,m.n1,m.n2,m.n3,m.n4,m.n5].getD i 0:=by
  have hi:i=0\/i=1\/i=2\/i=3\/i=4\/i=5:=by omega
  rcases hi with rfl | rfl | rfl | rfl | rfl | rfl <;> rfl
 generalize hq:m.num (i:Int)=q at *
 have HQ:=hid hmi
 clear hmi hq
 unfold mvV mvA
 generalize m.l.length=len at *
 rcases ht with rfl | rfl | rfl | rfl | rfl
 all_goals
  have hi:i=0\/i=1\/i=2\/i=3\/i=4\/i=5:=by omega
  rcases hi with rfl | rfl | rfl | rfl | rfl | rfl
  all_goals
   go_enter Tryz.func83,Tryz.ntmps83
   go_wp2_with fail
   refine (hwi _).mono ?_
   rintro e w3 ⟨rfl,rfl⟩
   go_wp2_with fail
   rw [<-HR.out]
   show PartsR _ _ _ _ _ (.returned (.slice (some ⟨w.heap.size+1+1+1,0,none⟩) 1 1)) _
   first | (have e:q=m.n0:=HQ.out;subst e) | (have e:q=m.n1:=HQ.out;subst e) | (have e:q=m.n2:=HQ.out;subst e) | (have e:q=m.n3:=HQ.out;subst e) | (have e:q=m.n4:=HQ.out;subst e) | (have e:q=m.n5:=HQ.out;subst e)
   refine parts_fin HPW.out hww hx hn1 hn2 (bw_a (bw_a (bw_a (bw_a (Below.refl _ w) _) _) _) _) (by omega) ?_
   exact blk_top (by simp only [World.size_alloc])
end Go.Proofs.YtpmfdlghckfgiaaGreat
set_option linter.unusedVariables false
set_option maxRecDepth 100000
set_option maxHeartbeats 16000000
namespace Go.Proofs.YtpmfdlghckfgiaaGreat
open Go.RowKit
theorem held20 {w w':World} (hc:Below w.heap.size w w') {p0 p1 p2 p3 p4 p5 p6 p7 p8 p9 p10 p11 p12 p13 p14 p15 p16 p17 p18 p19:Addr} {x0 x1 x2 x3 x4 x5 x6 x7 x8 x9 x10 x11 x12 x13 x14 x15 x16 x17 x18 x19:Value} (h:w.cell? p0=some x0/\w.cell? p1=some x1/\w.cell? p2=some x2/\w.cell? p3=some x3/\w.cell? p4=some x4/\w.cell? p5=some x5/\w.cell? p6=some x6/\w.cell? p7=some x7/\w.cell? p8=some x8/\w.cell? p9=some x9/\w.cell? p10=some x10/\w.cell? p11=some x11/\w.cell? p12=some x12/\w.cell? p13=some x13/\w.cell? p14=some x14/\w.cell? p15=some x15/\w.cell? p16=some x16/\w.cell? p17=some x17/\w.cell? p18=some x18/\w.cell? p19=some x19):w'.cell? p0=some x0/\w'.cell? p1=some x1/\w'.cell? p2=some x2/\w'.cell? p3=some x3/\w'.cell? p4=some x4/\w'.cell? p5=some x5/\w'.cell? p6=some x6/\w'.cell? p7=some x7/\w'.cell? p8=some x8/\w'.cell? p9=some x9/\w'.cell? p10=some x10/\w'.cell? p11=some x11/\w'.cell? p12=some x12/\w'.cell? p13=some x13/\w'.cell? p14=some x14/\w'.cell? p15=some x15/\w'.cell? p16=some x16/\w'.cell? p17=some x17/\w'.cell? p18=some x18/\w'.cell? p19=some x19:=by
 obtain ⟨h0,h1,h2,h3,h4,h5,h6,h7,h8,h9,h10,h11,h12,h13,h14,h15,h16,h17,h18,h19⟩:=h
 have f:∀ (p:Addr) (x:Value),w.cell? p=some x->w'.cell? p=some x:=fun p x h=>(hc.cell (World.block_lt_of_cell? w p h)).trans h
 exact ⟨f _ _ h0,f _ _ h1,f _ _ h2,f _ _ h3,f _ _ h4,f _ _ h5,f _ _ h6,f _ _ h7,f _ _ h8,f _ _ h9,f _ _ h10,f _ _ h11,f _ _ h12,f _ _ h13,f _ _ h14,f _ _ h15,f _ _ h16,f _ _ h17,f _ _ h18,f _ _ h19⟩
def L9S (s:Nat) (w':World):Prop:=w'.cell? ⟨s,0,none⟩=some (.int .u8 8)/\w'.cell? ⟨s,1,none⟩=some (.int .u64 5)/\w'.cell? ⟨s,2,none⟩=some (.int .u64 0)/\w'.cell? ⟨s,3,none⟩=some (.int .u64 0)/\w'.cell? ⟨s,4,none⟩=some (.int .u64 0)/\w'.cell? ⟨s,5,none⟩=some (.int .u64 0)/\w'.cell? ⟨s,6,none⟩=some (.int .u64 0)/\w'.cell? ⟨s,7,none⟩=some (.string ⟨#[]⟩)/\w'.cell? ⟨s,8,none⟩=some (.string ⟨#[]⟩)/\w'.cell? ⟨s,9,none⟩=some (.slice none 0 0)/\w'.cell? ⟨s+1,0,none⟩=some (.int .u8 7)/\w'.cell? ⟨s+1,1,none⟩=some (.int .u64 0)/\w'.cell? ⟨s+1,2,none⟩=some (.int .u64 0)/\w'.cell? ⟨s+1,3,none⟩=some (.int .u64 0)/\w'.cell? ⟨s+1,4,none⟩=some (.int .u64 0)/\w'.cell? ⟨s+1,5,none⟩=some (.int .u64 0)/\w'.cell? ⟨s+1,6,none⟩=some (.int .u64 0)/\w'.cell? ⟨s+1,7,none⟩=some (.string ⟨#[120]⟩)/\w'.cell? ⟨s+1,8,none⟩=some (.string ⟨#[]⟩)/\w'.cell? ⟨s+1,9,none⟩=some (.slice none 0 0)
theorem L9S.step {s:Nat} {w w':World} (hb:Below w.heap.size w w') (h:L9S s w):L9S s w':=held20 hb h
end Go.Proofs.YtpmfdlghckfgiaaGreat
set_option linter.unusedVariables false
set_option maxRecDepth 100000
set_option maxHeartbeats 16000000
namespace Go.Proofs.YtpmfdlghckfgiaaGreat
open Go.RowKit
theorem ofL_iff (k v:Int) (r:SRow):r ∈ ofL k v ↔ v<=3/\r ∈ ROWS/\(r.since:Int)<=v/\(r.kind:Int)=k:=by
 unfold ofL kn
 rw [List.mem_filter]
 by_cases h:3 < v
 ·rw [if_pos h]
  constructor
  ·rintro ⟨h1,-⟩;simp at h1
  ·rintro ⟨h1,-⟩;omega
 ·rw [if_neg h,List.mem_filter]
  simp only [decide_eq_true_eq]
  constructor
  ·rintro ⟨⟨h1,h2⟩,h3⟩;exact ⟨by omega,h1,h2,h3⟩
  ·rintro ⟨-,h1,h2,h3⟩;exact ⟨⟨h1,h2⟩,h3⟩
theorem kept_num (L:List SRow) (m:MV) (i:Nat) (h:i<=5):(keptM L m).num (i:Int)=if mkN L i then m.num (i:Int) else 0:=by
 have hi:i=0\/i=1\/i=2\/i=3\/i=4\/i=5:=by omega
 rcases hi with rfl | rfl | rfl | rfl | rfl | rfl <;> rfl
theorem kept_text (L:List SRow) (m:MV) (i:Nat) (h:i<=1):(keptM L m).text (i:Int)=if mkS L i then m.text (i:Int) else ⟨#[]⟩:=by
 have hi:i=0\/i=1:=by omega
 rcases hi with rfl | rfl <;> rfl
theorem kept_l (L:List SRow) (m:MV):(keptM L m).l=if mkL L then m.l else []:=rfl
theorem fldE_dep {m m':MV} {r:SRow} (hr:1<=r.typ/\r.typ<=10) (h1:r.typ<=6->m.num (r.slot:Nat)=m'.num (r.slot:Nat)) (h2:7<=r.typ->r.typ<=9->m.text (r.slot:Nat)=m'.text (r.slot:Nat)) (h3:r.typ=10->m.l=m'.l):fldE m r=fldE m' r:=by
 have hd:dflB m (r.typ:Nat) (r.slot:Nat)=dflB m' (r.typ:Nat) (r.slot:Nat):=by
  by_cases c1:r.typ<=6
  ·rw [dfl_num _ _ _ ⟨by omega,by omega⟩,dfl_num _ _ _ ⟨by omega,by omega⟩,h1 c1]
  by_cases c2:r.typ<=9
  ·rw [dfl_text _ _ _ ⟨by omega,by omega⟩,dfl_text _ _ _ ⟨by omega,by omega⟩,h2 (by omega) c2]
  ·have c3:r.typ=10:=by omega
   have c4:((r.typ:Nat):Int)=10:=by omega
   rw [c4,dfl_list,dfl_list,h3 c3]
 have hw:wrongE m (r.typ:Nat) (r.slot:Nat)=wrongE m' (r.typ:Nat) (r.slot:Nat):=by
  by_cases c1:r.typ<=6
  ·by_cases c5:r.typ=1\/r.typ=5
   ·rw [wr_num _ _ _ (by omega),wr_num _ _ _ (by omega),h1 c1]
   by_cases c4:r.typ=4
   ·have c6:((r.typ:Nat):Int)=4:=by omega
    rw [c6,wr_bool,wr_bool,h1 c1]
   ·rw [wr_out _ _ _ (by omega),wr_out _ _ _ (by omega)]
  by_cases c2:r.typ<=9
  ·rw [wr_text _ _ _ ⟨by omega,by omega⟩,wr_text _ _ _ ⟨by omega,by omega⟩,h2 (by omega) c2]
  ·have c3:r.typ=10:=by omega
   have c4:((r.typ:Nat):Int)=10:=by omega
   rw [c4,wr_list,wr_list,h3 c3]
 unfold fldE
 rw [hd,hw]
theorem chkL_dep {m m':MV}:∀ (L:List SRow),(∀ r ∈ L,fldE m r=fldE m' r)->chkL m L=chkL m' L
 | [],_=>rfl
 | r :: rs,h=>by
  rw [chkL,chkL,h r (List.mem_cons_self ..),chkL_dep rs fun q hq=>h q (List.mem_cons_of_mem _ hq)]
theorem sameB_iff (a b:MV):sameB a b=true ↔ a.k=b.k/\sameN a b/\sameT a b/\a.l=b.l:=by
 unfold sameB
 simp only [Bool.and_eq_true,decide_eq_true_eq,and_assoc]
theorem chkV_zero {m:MV} {L:List SRow} (h:(chkV m L).1=0):chkV m L=(0,0)/\L.length ≠ 0/\(chkL m L).1=0/\sameB m (keptM L m)=true:=by
 unfold chkV at h ⊢
 by_cases c1:L.length=0
 ·rw [if_pos c1] at h;exact absurd h (by decide)
 rw [if_neg c1] at h ⊢
 by_cases c2:(chkL m L).1=0
 ·rw [if_neg (fun h=>h c2)] at h ⊢
  by_cases c3:sameB m (keptM L m)=true
  ·rw [if_pos c3];exact ⟨rfl,c1,c2,c3⟩
  ·rw [if_neg c3] at h;exact absurd h (by decide)
 ·rw [if_pos c2] at h;exact absurd h c2
theorem chkV_ac (M:MV) (A:Option Addr) (c:Nat) (L:List SRow):chkV { M with A:=A,c:=c } L=chkV M L:=by
 have h:chkL { M with A:=A,c:=c } L=chkL M L:=chkL_dep L fun r _=>rfl
 unfold chkV
 rw [h]
 rfl
end Go.Proofs.YtpmfdlghckfgiaaGreat
