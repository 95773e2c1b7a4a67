/- strict.each: all kinds, with all versions. · strict.Any. · Layer 12's live. · What laws with strict share. -/
import Derived.Test.YtpmfdlghckfgiaaGreatStrDec
import Derived.Test.YtpmfdlghckfgiaaGreatEn3
import Derived.Test.YtpmfdlghckfgiaaGreatG12
import Derived.Test.YtpmfdlghckfgiaaGreatG20
import Derived.Test.YtpmfdlghckfgiaaGreatG24
import Derived.Test.YtpmfdlghckfgiaaGreatV3
set_option linter.unusedVariables false
set_option maxRecDepth 100000
set_option maxHeartbeats 16000000
namespace Go.Proofs.YtpmfdlghckfgiaaGreat
open Go.RowKit Go.Shelf
attribute [local go_sem] Oper.semAt_some
theorem kinds3_eq:kinds 3=[1,2,3,4,5,6,7,8,9,10]:=by decide +kernel
theorem kinds3:(kinds 3).map kvN=[.int .u8 1,.int .u8 2,.int .u8 3,.int .u8 4,.int .u8 5,.int .u8 6,.int .u8 7,.int .u8 8,.int .u8 9,.int .u8 10]/\(kinds 3).length=10:=by rw [kinds3_eq];exact ⟨rfl,rfl⟩
theorem kinds3_at (i:Nat) (h:i < 10):((kinds 3).map kvN)[i]? = some (.int .u8 ((i+1:Nat):Int)):=by
 rw [kinds3.1]
 have:i=0\/i=1\/i=2\/i=3\/i=4\/i=5\/i=6\/i=7\/i=8\/i=9:=by omega
 rcases this with rfl | rfl | rfl | rfl | rfl | rfl | rfl | rfl | rfl | rfl <;> rfl
def pairV (j:Nat):Array Value:=#[.int .u8 ((j / 3+1:Nat):Int),.int .i64 ((j % 3+1:Nat):Int)]
theorem teach_in (m:Nat) (w:World):CallsIn Fence.wide m Tryz.prog 18 #[] w fun e w'=>e=.returned (.func (.func 28) #[] #[])/\w'=w:=by
 refine callsIn_of_wp Tryz.func18 rfl trivial ?_ rfl
 simp only [Tryz.ntmps18,List.size_toArray,List.length_nil,Nat.reduceSub,Array.replicate_succ,Array.replicate_zero,List.push_toArray,List.append_toArray,List.nil_append]
 gi_wp2
 go_ret
 exact ⟨rfl,rfl⟩
theorem teach1_in (m:Nat) (hm:6<=m) (l B0:Nat) (J:Nat->Nat->World->Prop) (Jx:Nat->World->Prop) (W:World) (hB0:W.heap.size=B0) (h0:∀ b W',B0<=b->Below B0 W W'->J b 0 W')
  (hY:∀ b j W,j < 30->B0<=b->b<=W.heap.size->J b j W->YieldAt Fence.wide (m - 1) Tryz.prog l (pairV j) W fun e W'=>(e=.returned (.bool true)/\J b (j+1) W'/\KBl B0 b W W'/\b<=W'.heap.size)\/(e=.returned (.bool false)/\Jx b W'/\KBl B0 b W W'/\b<=W'.heap.size)) :
  CallsIn Fence.wide m Tryz.prog 28 #[.func (.yield l) #[] #[]] W fun e W'=>(∃ v,e=.returned v)/\∃ b,B0<=b/\(J b 30 W'\/Jx b W'):=by
 have h1:1<=m:=by omega
 have hki:=fun W=>skinds_in (m - 1) (by omega) 3 W (by omega) (by omega)
 have HK:=hid hki
 have HY:=hid hY
 have HJ0:=hid h0
 have HZ:=hid hB0
 clear hki hY h0 hB0
 refine callsIn_of_wp Tryz.func28 rfl trivial ?_ rfl
 simp only [Tryz.ntmps28,List.size_toArray,List.length_cons,List.length_nil,Nat.reduceAdd,Nat.reduceSub,Array.replicate_succ,Array.replicate_zero,List.push_toArray,List.append_toArray,List.nil_append,List.cons_append]
 gi_wp2_with (refine ⟨trivial,?_⟩;gi_at_call 29;refine (HK.out _).mono ?_;rintro e w1 ⟨vv,rfl,ho,hb1⟩;obtain ⟨AL,cL,rfl⟩:=row_slice' ho;rw [kinds3.2] at ho ⊢;have HO:=hid ho;have HB1:=hid hb1;clear ho hb1)
 obtain ⟨b,hb⟩:∃ b,w1.heap.size=b:=⟨_,rfl⟩
 have hBb:B0<=b:=by have:=HB1.out.size;rw [HZ.out] at this;omega
 have hj:=HJ0.out b w1 hBb (by have:=HB1.out;rw [HZ.out] at this;exact this)
 obtain ⟨gL,hgL⟩:∃ gL,AL=some ⟨gL,0,none⟩:=by
  rcases HO.out.2 with ⟨h,h2⟩ | ⟨g,cap,cur,h,-⟩
  ·simp at h2
  ·injection h with h;exact ⟨g,h⟩
 subst hgL
 have hgb:=HO.out.lt gL rfl
 rw [HZ.out,hb] at hgb
 have HJ:=hid hj
 clear hj
 gi_loopw [7] (fun p wr=>∃ i:Nat,i<=10/\p=.int .i64 (i:Int)/\J b (3 * i) wr/\wr.ownsRow (W.heap.size+1) 5 1 (.slice (some ⟨gL,0,none⟩) 10 cL) 10 ((kinds 3).map kvN)/\b<=wr.heap.size) (fun p _=>10 - (intOf p).toNat)
 case atStart=>exact ⟨0,by omega,rfl,HJ.out,HO.out,by omega⟩
 case round =>
  obtain ⟨i,hi,rfl,hJi,hoi,hbi⟩:=hrel
  have HOI:=hid hoi
  have HJI:=hid hJi
  clear hoi hJi
  by_cases hlt:i < 10
  ·have hcell:=(HOI.out.cellAt i (by omega)).trans (kinds3_at i hlt)
   have hii:(i:Int) < 10:=by omega
   rw [Int.natCast_add,Int.natCast_one] at hcell
   gi_wp2
   gi_loopw [4] (fun p wr=>∃ v:Nat,1<=v/\v<=4/\p=.int .i64 (v:Int)/\J b (3 * i+(v - 1)) wr/\wr.ownsRow (W.heap.size+1) 5 1 (.slice (some ⟨gL,0,none⟩) 10 cL) 10 ((kinds 3).map kvN)/\b<=wr.heap.size) (fun p _=>4 - (intOf p).toNat)
   case atStart=>exact ⟨1,by omega,by omega,rfl,HJI.out,HOI.out,hbi⟩
   case round =>
    obtain ⟨v,hv1,hv4,rfl,hJv,hov,hbv⟩:=hrel
    by_cases hv:v<=3
    ·have hvi:(v:Int)<=3:=by omega
     obtain ⟨fn,tmps,assign,body,hy,hR⟩:=HY.out b (3 * i+(v - 1)) _ (by omega) hBb hbv hJv
     unfold pairV at hy
     rw [show (3 * i+(v - 1)) / 3+1=i+1 by omega,show (3 * i+(v - 1)) % 3+1=v by omega,Int.natCast_add,Int.natCast_one] at hy
     have HOV:=hid hov
     clear hJv hov
     gi_wp2
     refine hR.mono ?_
     rintro e0 W3 (⟨rfl,hJ3,hk3,hb3⟩ | ⟨rfl,hJx3,-,-⟩)
     ·have ho3:=own_kb HOV.out hk3 (fun g hg=>by simp only [Value.ownBlock] at hg;injection hg with hg;omega)
      have HJ3:=hid hJ3
      have HO3:=hid ho3
      clear hJ3 ho3 hk3
      gi_wp2
      go_roundw
      case rel=>exact ⟨v+1,by omega,by omega,by go_num,by have:=HJ3.out;rw [show 3 * i+(v - 1)+1=3 * i+(v+1 - 1) by omega] at this;exact this,HO3.out,hb3⟩
      case measure=>simp [intOf];omega
     ·have HJX:=hid hJx3
      clear hJx3
      gi_wp2
      refine bodyPost_ret (results_none rfl _ _ _) rfl ?_
      exact ⟨⟨_,rfl⟩,b,hBb,.inr HJX.out⟩
    ·have hvi:¬ (v:Int)<=3:=by omega
     obtain rfl:v=4:=by omega
     have HJV:=hid hJv
     have HOV:=hid hov
     clear hJv hov
     gi_wp2
     go_roundw
     case rel=>exact ⟨i+1,by omega,by go_num,by have:=HJV.out;rw [show 3 * i+(4 - 1)=3 * (i+1) by omega] at this;exact this,HOV.out,hbv⟩
     case measure=>simp [intOf];omega
  ·obtain rfl:i=10:=by omega
   gi_wp2
   go_end0
   exact ⟨⟨_,rfl⟩,b,hBb,.inl HJI.out⟩
end Go.Proofs.YtpmfdlghckfgiaaGreat
set_option linter.unusedVariables false
set_option maxRecDepth 100000
set_option maxHeartbeats 16000000
namespace Go.Proofs.YtpmfdlghckfgiaaGreat
open Go.RowKit Go.Shelf
attribute [local go_sem] Oper.semAt_some
def anyJ (bs:List UInt8) (j:Nat):Bool:=decide ((strD (j / 3+1) ((j % 3+1:Nat):Int) bs).2.1=0)
structure AJ (s:Nat) (w:World) (bs:List UInt8) (n:Nat) (A:Option Addr) (c:Nat) (j:Nat) (W:World):Prop where
  bx:Blk W s 22 #[.slice A n c]
  r1:Blk W (s+1) 29 #[.int .u8 0,.int .u64 0,.int .u64 0,.int .u64 0,.int .u64 0,.int .u64 0,.int .u64 0,.string ⟨#[]⟩,.string ⟨#[]⟩,.slice none 0 0]
  r2:Blk W (s+1+1) 3 #[.int .i64 0]
  r3:Blk W (s+1+1+1) 4 #[.bool false]
  bel:Below s w W
  sz:s+4<=W.heap.size
  no:∀ i,i < j->anyJ bs i=false
section
variable {s:Nat} {w W W':World} {bs:List UInt8} {n:Nat} {A:Option Addr} {c j:Nat} {S:Nat->Prop}
theorem AJ.keep (h:AJ s w bs n A c j W) (hc:Chg S W W') (hS:∀ q,S q->s+4<=q):AJ s w bs n A c j W':=by
  have g:=h.sz
  exact ⟨hc.blk h.bx (fun hx=>by have:=hS _ hx;omega),hc.blk h.r1 (fun hx=>by have:=hS _ hx;omega),hc.blk h.r2 (fun hx=>by have:=hS _ hx;omega),hc.blk h.r3 (fun hx=>by have:=hS _ hx;omega),h.bel.trans (hc.below (B:=s) (fun x hx=>by have:=hS x hx;omega) (by omega)),Nat.le_trans g hc.size,h.no⟩
theorem AJ.next (h:AJ s w bs n A c j W) (hn:anyJ bs j=false):AJ s w bs n A c (j+1) W:=⟨h.bx,h.r1,h.r2,h.r3,h.bel,h.sz,fun i hi=>by
  rcases Nat.lt_or_ge i j with hlt | hge
  · exact h.no i hlt
  · obtain rfl:i=j:=by omega
    exact hn⟩
end
structure AX (s b:Nat) (w:World) (M:MV) (vv:Int) (A':Option Addr) (c':Nat) (W:World):Prop where
  r1:Blk W (s+1) 29 #[.int .u8 (M.k:Int),.int .u64 (M.n0:Int),.int .u64 (M.n1:Int),.int .u64 (M.n2:Int),.int .u64 (M.n3:Int),.int .u64 (M.n4:Int),.int .u64 (M.n5:Int),.string M.s0,.string M.s1,.slice A' M.l.length c']
  r2:Blk W (s+1+1) 3 #[.int .i64 vv]
  r3:Blk W (s+1+1+1) 4 #[.bool true]
  row:Ow W b 9 M.l.length A' c' (M.l.map sv)
  bel:Below s w W
  sz:s+4<=W.heap.size
theorem AX.keep {s b:Nat} {w W W':World} {M:MV} {vv:Int} {A':Option Addr} {c':Nat} {S:Nat->Prop} (h:AX s b w M vv A' c' W) (hc:Chg S W W') (hS:∀ q,S q->s+4<=q/\q < b):AX s b w M vv A' c' W':=by
  have g:=h.sz
  exact ⟨hc.blk h.r1 (fun hx=>by have:=hS _ hx;omega),hc.blk h.r2 (fun hx=>by have:=hS _ hx;omega),hc.blk h.r3 (fun hx=>by have:=hS _ hx;omega),h.row.chg hc (fun q hq=>(hS q hq).2),h.bel.trans (hc.below (B:=s) (fun x hx=>by have:=hS x hx;omega) (by omega)),Nat.le_trans g hc.size⟩
def AI (s:Nat) (w:World) (bs:List UInt8) (n:Nat) (A:Option Addr) (c:Nat) (b j:Nat) (W:World):Prop:=s+6<=b/\AJ s w bs n A c j W
def AY (s:Nat) (w:World) (bs:List UInt8) (b:Nat) (c:Code) (W:World):Prop:=c=.ret/\s+6<=b/\∃ j A' c',j < 30/\anyJ bs j=true/\(∀ i,i < j->anyJ bs i=false)/\AX s b w (strD (j / 3+1) ((j % 3+1:Nat):Int) bs).1 ((j % 3+1:Nat):Int) A' c' W
def AnyR (w:World) (bs:List UInt8) (e:Ending) (w':World):Prop :=
  ((∃ j A' c',j < 30/\anyJ bs j=true/\(∀ i,i < j->anyJ bs i=false)/\e=.returned (.tuple #[.agg #[.int .u8 ((strD (j / 3+1) ((j % 3+1:Nat):Int) bs).1.k:Int),.int .u64 ((strD (j / 3+1) ((j % 3+1:Nat):Int) bs).1.n0:Int),.int .u64 ((strD (j / 3+1) ((j % 3+1:Nat):Int) bs).1.n1:Int),.int .u64 ((strD (j / 3+1) ((j % 3+1:Nat):Int) bs).1.n2:Int),.int .u64 ((strD (j / 3+1) ((j % 3+1:Nat):Int) bs).1.n3:Int),.int .u64 ((strD (j / 3+1) ((j % 3+1:Nat):Int) bs).1.n4:Int),.int .u64 ((strD (j / 3+1) ((j % 3+1:Nat):Int) bs).1.n5:Int),.string (strD (j / 3+1) ((j % 3+1:Nat):Int) bs).1.s0,.string (strD (j / 3+1) ((j % 3+1:Nat):Int) bs).1.s1,.slice A' (strD (j / 3+1) ((j % 3+1:Nat):Int) bs).1.l.length c'],.int .i64 ((j % 3+1:Nat):Int),.bool true])/\Ow w' w.heap.size 9 (strD (j / 3+1) ((j % 3+1:Nat):Int) bs).1.l.length A' c' ((strD (j / 3+1) ((j % 3+1:Nat):Int) bs).1.l.map sv)) \/
   ((∀ i,i < 30->anyJ bs i=false)/\e=.returned (.tuple #[.agg #[.int .u8 0,.int .u64 0,.int .u64 0,.int .u64 0,.int .u64 0,.int .u64 0,.int .u64 0,.string ⟨#[]⟩,.string ⟨#[]⟩,.slice none 0 0],.int .i64 0,.bool false])))/\Below w.heap.size w w'
theorem rst4 {w:World} {s:Nat} {o0 o1 o2 o3 o4 o5 o6 o7 o8 o9 p q:Value} (h6:Blk w (s+1) 29 #[o0,o1,o2,o3,o4,o5,o6,o7,o8,o9]) (h7:Blk w (s+1+1) 3 #[p]) (h8:Blk w (s+1+1+1) 4 #[q]) (x0 x1 x2 x3 x4 x5 x6 x7 x8 x9 y z:Value) :
    ∃ W,W=((((((((((((w.setCell ⟨s+1,0,none⟩ x0).setCell ⟨s+1,1,none⟩ x1).setCell ⟨s+1,2,none⟩ x2).setCell ⟨s+1,3,none⟩ x3).setCell ⟨s+1,4,none⟩ x4).setCell ⟨s+1,5,none⟩ x5).setCell ⟨s+1,6,none⟩ x6).setCell ⟨s+1,7,none⟩ x7).setCell ⟨s+1,8,none⟩ x8).setCell ⟨s+1,9,none⟩ x9).setCell ⟨s+1+1,0,none⟩ y).setCell ⟨s+1+1+1,0,none⟩ z)/\Blk W (s+1) 29 #[x0,x1,x2,x3,x4,x5,x6,x7,x8,x9]/\Blk W (s+1+1) 3 #[y]/\Blk W (s+1+1+1) 4 #[z]/\Chg (fun q=>q=s+1\/q=s+1+1\/q=s+1+1+1) w W:=by
  obtain ⟨h1,h2⟩:=mstore h6 x0 x1 x2 x3 x4 x5 x6 x7 x8 x9
  have k7:=h2.blk h7 (by omega)
  have k8:=h2.blk h8 (by omega)
  have hc:=h2.mono (T:=fun q=>q=s+1\/q=s+1+1\/q=s+1+1+1) (fun q _ h=>.inl h)
  refine ⟨_,rfl,?_⟩
  generalize ((((((((((w.setCell ⟨s+1,0,none⟩ x0).setCell ⟨s+1,1,none⟩ x1).setCell ⟨s+1,2,none⟩ x2).setCell ⟨s+1,3,none⟩ x3).setCell ⟨s+1,4,none⟩ x4).setCell ⟨s+1,5,none⟩ x5).setCell ⟨s+1,6,none⟩ x6).setCell ⟨s+1,7,none⟩ x7).setCell ⟨s+1,8,none⟩ x8).setCell ⟨s+1,9,none⟩ x9)=W at *
  refine ⟨(h1.far (p:=⟨s+1+1,0,none⟩) (by show ¬ s+1=s+1+1;omega) y).far (p:=⟨s+1+1+1,0,none⟩) (by show ¬ s+1=s+1+1+1;omega) z,?_,?_,?_⟩
  · have:=(k7.set_ 0 y).far (p:=⟨s+1+1+1,0,none⟩) (by show ¬ s+1+1=s+1+1+1;omega) z
    simpa using this
  · have:=(k8.far (p:=⟨s+1+1,0,none⟩) (by show ¬ s+1+1+1=s+1+1;omega) y).set_ 0 z
    simpa using this
  · exact (hc.set_ (.inl (.inr (.inl rfl))) 0 y).set_ (.inl (.inr (.inr rfl))) 0 z
theorem tany_in (m:Nat) (hm:12<=m) (bs:List UInt8) (n:Nat) (A:Option Addr) (c:Nat) (w:World) (hn:bs.length=n) (hs:Sl w A c (bs.map bv)) :
    CallsIn Fence.wide m Tryz.prog 9 #[.slice A n c] w (AnyR w bs):=by
  have h1:1<=m:=by omega
  obtain ⟨s,hsz⟩:∃ s,w.heap.size=s:=⟨_,rfl⟩
  obtain ⟨Q,hQ⟩:∃ Q,Q=AnyR w bs:=⟨_,rfl⟩
  rw [<-hQ]
  have hdc:=fun (j:Nat) (hj:j < 30) W (hW:Below s w W)=>tdec_any (j / 3+1) ((j % 3+1:Nat):Int) bs n A c W (by omega) (by omega) (by omega) hn (hs.below (by rw [hsz];exact hW))
  have hk0:Blk ((((w.alloc (.cells #[.slice A n c] 22)).alloc (.cells #[.int .u8 0,.int .u64 0,.int .u64 0,.int .u64 0,.int .u64 0,.int .u64 0,.int .u64 0,.string ⟨#[]⟩,.string ⟨#[]⟩,.slice none 0 0] 29)).alloc (.cells #[.int .i64 0] 3)).alloc (.cells #[.bool false] 4)) (s) 22 #[.slice A n c]:=by
    have h:=((((Blk.new w 22 #[.slice A n c]).alloc (.cells #[.int .u8 0,.int .u64 0,.int .u64 0,.int .u64 0,.int .u64 0,.int .u64 0,.int .u64 0,.string ⟨#[]⟩,.string ⟨#[]⟩,.slice none 0 0] 29)).alloc (.cells #[.int .i64 0] 3)).alloc (.cells #[.bool false] 4))
    rw [hsz] at h;exact h
  have hk1:Blk ((((w.alloc (.cells #[.slice A n c] 22)).alloc (.cells #[.int .u8 0,.int .u64 0,.int .u64 0,.int .u64 0,.int .u64 0,.int .u64 0,.int .u64 0,.string ⟨#[]⟩,.string ⟨#[]⟩,.slice none 0 0] 29)).alloc (.cells #[.int .i64 0] 3)).alloc (.cells #[.bool false] 4)) (s+1) 29 #[.int .u8 0,.int .u64 0,.int .u64 0,.int .u64 0,.int .u64 0,.int .u64 0,.int .u64 0,.string ⟨#[]⟩,.string ⟨#[]⟩,.slice none 0 0]:=by
    have h:=(((Blk.new (w.alloc (.cells #[.slice A n c] 22)) 29 #[.int .u8 0,.int .u64 0,.int .u64 0,.int .u64 0,.int .u64 0,.int .u64 0,.int .u64 0,.string ⟨#[]⟩,.string ⟨#[]⟩,.slice none 0 0]).alloc (.cells #[.int .i64 0] 3)).alloc (.cells #[.bool false] 4))
    rw [World.size_alloc,hsz] at h;exact h
  have hk2:Blk ((((w.alloc (.cells #[.slice A n c] 22)).alloc (.cells #[.int .u8 0,.int .u64 0,.int .u64 0,.int .u64 0,.int .u64 0,.int .u64 0,.int .u64 0,.string ⟨#[]⟩,.string ⟨#[]⟩,.slice none 0 0] 29)).alloc (.cells #[.int .i64 0] 3)).alloc (.cells #[.bool false] 4)) (s+1+1) 3 #[.int .i64 0]:=by
    have h:=((Blk.new ((w.alloc (.cells #[.slice A n c] 22)).alloc (.cells #[.int .u8 0,.int .u64 0,.int .u64 0,.int .u64 0,.int .u64 0,.int .u64 0,.int .u64 0,.string ⟨#[]⟩,.string ⟨#[]⟩,.slice none 0 0] 29)) 3 #[.int .i64 0]).alloc (.cells #[.bool false] 4))
    rw [World.size_alloc,World.size_alloc,hsz] at h;exact h
  have hk3:Blk ((((w.alloc (.cells #[.slice A n c] 22)).alloc (.cells #[.int .u8 0,.int .u64 0,.int .u64 0,.int .u64 0,.int .u64 0,.int .u64 0,.int .u64 0,.string ⟨#[]⟩,.string ⟨#[]⟩,.slice none 0 0] 29)).alloc (.cells #[.int .i64 0] 3)).alloc (.cells #[.bool false] 4)) (s+1+1+1) 4 #[.bool false]:=by
    have h:=(Blk.new (((w.alloc (.cells #[.slice A n c] 22)).alloc (.cells #[.int .u8 0,.int .u64 0,.int .u64 0,.int .u64 0,.int .u64 0,.int .u64 0,.int .u64 0,.string ⟨#[]⟩,.string ⟨#[]⟩,.slice none 0 0] 29)).alloc (.cells #[.int .i64 0] 3)) 4 #[.bool false])
    rw [World.size_alloc,World.size_alloc,World.size_alloc,hsz] at h;exact h
  have hb0:Below s w ((((w.alloc (.cells #[.slice A n c] 22)).alloc (.cells #[.int .u8 0,.int .u64 0,.int .u64 0,.int .u64 0,.int .u64 0,.int .u64 0,.int .u64 0,.string ⟨#[]⟩,.string ⟨#[]⟩,.slice none 0 0] 29)).alloc (.cells #[.int .i64 0] 3)).alloc (.cells #[.bool false] 4)):=by
    rw [<-hsz];exact bw_a (bw_a (bw_a (bw_a (Below.refl _ w) _) _) _) _
  have hz0:(((((w.alloc (.cells #[.slice A n c] 22)).alloc (.cells #[.int .u8 0,.int .u64 0,.int .u64 0,.int .u64 0,.int .u64 0,.int .u64 0,.int .u64 0,.string ⟨#[]⟩,.string ⟨#[]⟩,.slice none 0 0] 29)).alloc (.cells #[.int .i64 0] 3)).alloc (.cells #[.bool false] 4))).heap.size=s+4:=by simp [hsz]
  have haj:AJ s w bs n A c 0 ((((w.alloc (.cells #[.slice A n c] 22)).alloc (.cells #[.int .u8 0,.int .u64 0,.int .u64 0,.int .u64 0,.int .u64 0,.int .u64 0,.int .u64 0,.string ⟨#[]⟩,.string ⟨#[]⟩,.slice none 0 0] 29)).alloc (.cells #[.int .i64 0] 3)).alloc (.cells #[.bool false] 4)):=⟨hk0,hk1,hk2,hk3,hb0,by omega,fun i hi=>by omega⟩
  have HAJ:=hid haj
  have HZ0:=hid hz0
  have HD:=hid hdc
  have HQ:=hid hQ
  have HSZ:=hid hsz
  clear hk0 hk1 hk2 hk3 hb0 hz0 haj hdc hs hn hQ
  refine callsIn_of_wp_marks Tryz.func9 rfl trivial ?_ rfl
  simp only [Tryz.ntmps9,List.size_toArray,List.length_cons,List.length_nil,Nat.reduceAdd,Nat.reduceSub,Array.replicate_succ,Array.replicate_zero,List.push_toArray,List.append_toArray,List.nil_append,List.cons_append]
  gi_wp2_with (refine ⟨trivial,?_⟩;gi_at_call 18;refine (teach_in _ _).mono ?_;rintro e w' ⟨rfl,rfl⟩)
  generalize hW0:((((w.alloc (.cells #[.slice A n c] 22)).alloc (.cells #[.int .u8 0,.int .u64 0,.int .u64 0,.int .u64 0,.int .u64 0,.int .u64 0,.int .u64 0,.string ⟨#[]⟩,.string ⟨#[]⟩,.slice none 0 0] 29)).alloc (.cells #[.int .i64 0] 3)).alloc (.cells #[.bool false] 4))=W0 at *
  refine range_b m (by omega) (s+4) HZ0.out (gf:=28) (lb:=#[]) rfl (enters_of Tryz.func28 (by kernel_rfl) rfl) 30 (fun j xs _=>xs=pairV j) ?_
    (AI s w bs n A c) (AY s w bs) ?_ ?_ ?_ ?_ ?_ ?_ ?_
  · rintro j xs W rfl
    rfl
  · rintro b j W1 W2 ⟨hb,hJ⟩ hc
    exact ⟨hb,hJ.keep hc (fun x hx=>by omega)⟩
  · rintro b c W1 W2 ⟨hcr,hb,j,A',c',h1,h2,h3,hX⟩ hc
    exact ⟨hcr,hb,j,A',c',h1,h2,h3,hX.keep hc (fun x hx=>by omega)⟩
  · intro b W' hb hB
    exact ⟨by omega,HAJ.out.keep (Chg.of_below hB (S:=fun x=>s+4<=x) (fun k hk hq=>by omega)) (fun x hx=>hx)⟩
  · intro l2 J2 Jx2 W1 hw1 hB1 hJI hJn2 hJs hJ0 hy
    exact teach1_in (m - 1) (by omega) l2 (s+4+2) J2 Jx2 W1 hw1 hJ0 (fun b j W hj hb hbW hJ=>hy b j W _ hj hb hbW hJ rfl)
  · rintro l2 b j W1 xs hj hb hbW ⟨hb6,hJ⟩ rfl hlo
    obtain ⟨vv,hvv⟩:∃ vv:Int,((j % 3+1:Nat):Int)=vv:=⟨_,rfl⟩
    obtain ⟨kk,hkk⟩:∃ kk:Nat,j / 3+1=kk:=⟨_,rfl⟩
    unfold pairV
    rw [hvv,hkk]
    have hdj0:=fun W (hJ:AJ s w bs n A c j W)=>HD.out j hj W hJ.bel
    obtain ⟨R,hR⟩:∃ R,strD (j / 3+1) ((j % 3+1:Nat):Int) bs=R:=⟨_,rfl⟩
    have hany:anyJ bs j=decide (R.2.1=0):=by unfold anyJ;rw [hR]
    have hax:∀ A' c' W,R.2.1=0->AX s b w R.1 vv A' c' W->(∀ i,i < j->anyJ bs i=false)->AY s w bs b .ret W:=fun A' c' W h0 hX hno=>⟨rfl,hb6,j,A',c',hj,by rw [hany,h0];rfl,hno,by rw [hR,hvv];exact hX⟩
    have hnx:∀ W,R.2.1 ≠ 0->AJ s w bs n A c j W->AI s w bs n A c b (j+1) W:=fun W h0 hX=>⟨hb6,hX.next (by rw [hany];simpa using h0)⟩
    rw [hR,hvv,hkk] at hdj0
    obtain ⟨M,E,P⟩:=R
    have HDJ:=hid hdj0
    have HAX:=hid hax
    have HNX:=hid hnx
    clear hdj0 hax hnx hany hR hvv hkk
    gi_wp2
    refine ⟨KBl.refl _ _ _,fun W2 hc2=>?_⟩
    have hJ2:=hJ.keep hc2 (fun x hx=>by omega)
    have hb2:=hc2.size
    have hco:=HDJ.out W2 hJ2
    have x0:=hJ2.bx.cell 0
    simp only [gA,gB] at x0
    have hxl:=hJ2.bx.lt
    have HJ2:=hid hJ2
    have HCO:=hid hco
    have HC2:=hid hc2
    have hbW2:b<=W2.heap.size:=by omega
    clear hJ hJ2 hco hc2
    have harm:∀ w3,Below W2.heap.size W2 w3->AJ s w bs n A c j w3:=fun w3 h=>HJ2.out.keep (S:=fun _=>False) (Chg.of_new h) (fun q hq=>hq.elim)
    have HARM:=hid harm
    clear harm
    by_cases hE:E=0
    · subst hE
      have hax:=fun A' c' W=>HAX.out A' c' W rfl
      have HAX2:=hid hax
      clear hax HAX HNX
      gi_wp2_with (refine ⟨trivial,(fun _=>by omega),?_⟩;gi_at_call 6;refine (CallsIn.inRound l2 ((callsIn_wide (n:=m - 1 - 1 - 1)).2 HCO.out)).mono ?_;rintro e w3 ⟨A',c',rfl,hl3,hb3⟩;have hl3:=hl3.mono hbW2;have HL3:=hid hl3;have hj3:=HARM.out w3 hb3;have HJ3:=hid hj3;have HB3:=hid hb3;have c0:=hj3.r1.cell 0;have c1:=hj3.r1.cell 1;have c2:=hj3.r1.cell 2;have c3:=hj3.r1.cell 3;have c4:=hj3.r1.cell 4;have c5:=hj3.r1.cell 5;have c6:=hj3.r1.cell 6;have c7:=hj3.r1.cell 7;have c8:=hj3.r1.cell 8;have c9:=hj3.r1.cell 9;have d0:=hj3.r2.cell 0;have e0:=hj3.r3.cell 0;have hlt1:=hj3.r1.lt;have hlt2:=hj3.r2.lt;have hlt3:=hj3.r3.lt;obtain ⟨p3,hp3⟩:∃ p,w3.heap.size=p:=⟨_,rfl⟩;rw [hp3] at hlt1 hlt2 hlt3;have n1:¬ s+1=p3:=(by omega);have n2:¬ s+1+1=p3:=(by omega);have n3:¬ s+1+1+1=p3:=(by omega);have n4:¬ s+1=p3+1:=(by omega);have n5:¬ s+1+1=p3+1:=(by omega);have n6:¬ s+1+1+1=p3+1:=(by omega);have n7:¬ p3=s+1:=(by omega);have n8:¬ p3=s+1+1:=(by omega);have n9:¬ p3=s+1+1+1:=(by omega);have m1:s+1 < p3+1:=(by omega);have m2:s+1+1 < p3+1:=(by omega);have m3:s+1+1+1 < p3+1:=(by omega);simp only [gA,gB,gC] at c0 c1 c2 c3 c4 c5 c6 c7 c8 c9 d0 e0;have f0:=hj3.r1.frozen 0;have f1:=hj3.r1.frozen 1;have f2:=hj3.r1.frozen 2;have f3:=hj3.r1.frozen 3;have f4:=hj3.r1.frozen 4;have f5:=hj3.r1.frozen 5;have f6:=hj3.r1.frozen 6;have f7:=hj3.r1.frozen 7;have f8:=hj3.r1.frozen 8;have f9:=hj3.r1.frozen 9;have g0:=hj3.r2.frozen 0;have h0:=hj3.r3.frozen 0;clear hl3 hb3 hj3)
      obtain ⟨W9,hW9,r1,r2,r3,hC⟩:=rst4 HJ3.out.r1 HJ3.out.r2 HJ3.out.r3 (.int .u8 (M.k:Int)) (.int .u64 (M.n0:Int)) (.int .u64 (M.n1:Int)) (.int .u64 (M.n2:Int)) (.int .u64 (M.n3:Int)) (.int .u64 (M.n4:Int)) (.int .u64 (M.n5:Int)) (.string M.s0) (.string M.s1) (.slice A' M.l.length c') (.int .i64 vv) (.bool true)
      try rw [<-hW9]
      clear hW9
      have hC2:=(hC.alloc (.cells #[.int .u8 (M.k:Int),.int .u64 (M.n0:Int),.int .u64 (M.n1:Int),.int .u64 (M.n2:Int),.int .u64 (M.n3:Int),.int .u64 (M.n4:Int),.int .u64 (M.n5:Int),.string M.s0,.string M.s1,.slice A' M.l.length c'] 29)).alloc (.cells #[.int .i64 0,.int .i64 (P:Int)] 32)
      have hcF:=(Chg.of_new (S:=fun q=>q=s+1\/q=s+1+1\/q=s+1+1+1) HB3.out).trans hC2
      exact ⟨KBl.of_chg hcF hbW2 (fun q g1 g2=>by omega),HAX2.out A' c' _ ⟨(r1.alloc _).alloc _,(r2.alloc _).alloc _,(r3.alloc _).alloc _,HL3.out.chg hC2 (fun q hq=>by omega),HJ2.out.bel.trans (hcF.below (B:=s) (fun q hq=>by omega) (by have:=HJ2.out.sz;omega)),by have:=hcF.size;have:=HJ2.out.sz;omega⟩ HJ2.out.no⟩
    · have hnx:=fun W=>HNX.out W hE
      have hEb:(E == 0)=false:=by simpa using hE
      have HNX2:=hid hnx
      have HE:=hid hE
      clear hnx HNX HAX hE
      gi_wp2_with (refine ⟨trivial,(fun _=>by omega),?_⟩;gi_at_call 6;refine (CallsIn.inRound l2 ((callsIn_wide (n:=m - 1 - 1 - 1)).2 HCO.out)).mono ?_;rintro e w3 ⟨A',c',rfl,hl3,hb3⟩;have hj3:=HARM.out w3 hb3;have HJ3:=hid hj3;have HB3:=hid hb3;clear hl3 hb3 hj3)
      have hcE:=((Chg.refl (fun _=>False) w3).alloc (.cells #[.int .u8 (M.k:Int),.int .u64 (M.n0:Int),.int .u64 (M.n1:Int),.int .u64 (M.n2:Int),.int .u64 (M.n3:Int),.int .u64 (M.n4:Int),.int .u64 (M.n5:Int),.string M.s0,.string M.s1,.slice A' M.l.length c'] 29)).alloc (.cells #[.int .i64 E,.int .i64 (P:Int)] 32)
      exact ⟨KBl.of_chg ((Chg.of_new (S:=fun _=>False) HB3.out).trans hcE) hbW2 (fun q g1 g2 h=>h),HNX2.out _ (HJ3.out.keep hcE (fun q hq=>hq.elim))⟩
  · rintro b W1 hb ⟨hb6,hJ⟩ hd
    have c0:=hJ.r1.cell 0;have c1:=hJ.r1.cell 1;have c2:=hJ.r1.cell 2;have c3:=hJ.r1.cell 3;have c4:=hJ.r1.cell 4;have c5:=hJ.r1.cell 5;have c6:=hJ.r1.cell 6;have c7:=hJ.r1.cell 7;have c8:=hJ.r1.cell 8;have c9:=hJ.r1.cell 9;have d0:=hJ.r2.cell 0;have e0:=hJ.r3.cell 0
    simp only [gA,gB,gC] at c0 c1 c2 c3 c4 c5 c6 c7 c8 c9 d0 e0
    have f0:=hJ.r1.frozen 0;have f1:=hJ.r1.frozen 1;have f2:=hJ.r1.frozen 2;have f3:=hJ.r1.frozen 3;have f4:=hJ.r1.frozen 4;have f5:=hJ.r1.frozen 5;have f6:=hJ.r1.frozen 6;have f7:=hJ.r1.frozen 7;have f8:=hJ.r1.frozen 8;have f9:=hJ.r1.frozen 9;have g0:=hJ.r2.frozen 0;have h0:=hJ.r3.frozen 0
    have HJ:=hid hJ
    have HD1:=hid hd
    clear hJ hd
    gi_wp2
    obtain ⟨W9,hW9,r1,r2,r3,hC⟩:=rst4 HJ.out.r1 HJ.out.r2 HJ.out.r3 (.int .u8 0) (.int .u64 0) (.int .u64 0) (.int .u64 0) (.int .u64 0) (.int .u64 0) (.int .u64 0) (.string ⟨#[]⟩) (.string ⟨#[]⟩) (.slice none 0 0) (.int .i64 0) (.bool false)
    try rw [<-hW9]
    clear hW9
    have hd9:=(hC.block (s+4) (Array.getElem?_eq_some_iff.1 HD1.out).1 (by omega)).trans HD1.out
    have hM:Marks (s+4) W9 [s+4]:=(Marks.nil_ _ _).cons_ (Nat.le_refl _) (by simp) hd9
    refine leaves_marks (s+4) [s+4] W9 hM fun W6 h6=>?_
    have k1:=h6.blk r1 (by simp)
    have k2:=h6.blk r2 (by simp)
    have k3:=h6.blk r3 (by simp)
    have x0:=k1.cell 0;have x1:=k1.cell 1;have x2:=k1.cell 2;have x3:=k1.cell 3;have x4:=k1.cell 4;have x5:=k1.cell 5;have x6:=k1.cell 6;have x7:=k1.cell 7;have x8:=k1.cell 8;have x9:=k1.cell 9
    have y0:=k2.cell 0
    have z0:=k3.cell 0
    simp only [gA,gB,gC] at x0 x1 x2 x3 x4 x5 x6 x7 x8 x9 y0 z0
    refine ⟨.tuple #[.agg #[.int .u8 0,.int .u64 0,.int .u64 0,.int .u64 0,.int .u64 0,.int .u64 0,.int .u64 0,.string ⟨#[]⟩,.string ⟨#[]⟩,.slice none 0 0],.int .i64 0,.bool false],by simp [results,Tryz.results9,go_sem,x0,x1,x2,x3,x4,x5,x6,x7,x8,x9,y0,z0],?_⟩
    rw [HQ.out]
    refine ⟨.inr ⟨HJ.out.no,rfl⟩,?_⟩
    rw [hsz]
    exact HJ.out.bel.trans ((hC.mono (T:=fun q=>s<=q) (fun q _ hq=>by omega)).trans (h6.mono (fun q _ hq=>by simp at hq;omega)) |>.below (B:=s) (fun q hq=>hq) (by have:=HJ.out.sz;omega))
  · rintro b c2 W1 hb ⟨rfl,hb6,j,A',c',hj,ha,hno,hX⟩ hd
    gi_wp2
    have hM:Marks (s+4) W1 [s+4]:=(Marks.nil_ _ _).cons_ (Nat.le_refl _) (by simp) hd
    refine leaves_marks (s+4) [s+4] W1 hM fun W6 h6=>?_
    have h7:=hX.keep h6 (fun q hq=>by simp at hq;omega)
    have x0:=h7.r1.cell 0;have x1:=h7.r1.cell 1;have x2:=h7.r1.cell 2;have x3:=h7.r1.cell 3;have x4:=h7.r1.cell 4;have x5:=h7.r1.cell 5;have x6:=h7.r1.cell 6;have x7:=h7.r1.cell 7;have x8:=h7.r1.cell 8;have x9:=h7.r1.cell 9
    have y0:=h7.r2.cell 0
    have z0:=h7.r3.cell 0
    simp only [gA,gB,gC] at x0 x1 x2 x3 x4 x5 x6 x7 x8 x9 y0 z0
    refine ⟨.tuple #[.agg #[.int .u8 ((strD (j / 3+1) ((j % 3+1:Nat):Int) bs).1.k:Int),.int .u64 ((strD (j / 3+1) ((j % 3+1:Nat):Int) bs).1.n0:Int),.int .u64 ((strD (j / 3+1) ((j % 3+1:Nat):Int) bs).1.n1:Int),.int .u64 ((strD (j / 3+1) ((j % 3+1:Nat):Int) bs).1.n2:Int),.int .u64 ((strD (j / 3+1) ((j % 3+1:Nat):Int) bs).1.n3:Int),.int .u64 ((strD (j / 3+1) ((j % 3+1:Nat):Int) bs).1.n4:Int),.int .u64 ((strD (j / 3+1) ((j % 3+1:Nat):Int) bs).1.n5:Int),.string (strD (j / 3+1) ((j % 3+1:Nat):Int) bs).1.s0,.string (strD (j / 3+1) ((j % 3+1:Nat):Int) bs).1.s1,.slice A' (strD (j / 3+1) ((j % 3+1:Nat):Int) bs).1.l.length c'],.int .i64 ((j % 3+1:Nat):Int),.bool true],by simp [results,Tryz.results9,go_sem,x0,x1,x2,x3,x4,x5,x6,x7,x8,x9,y0,z0],?_⟩
    rw [HQ.out]
    exact ⟨.inl ⟨j,A',c',hj,ha,hno,rfl,h7.row.mono (by rw [hsz];omega)⟩,by rw [hsz];exact h7.bel⟩
theorem tany_any (bs:List UInt8) (n:Nat) (A:Option Addr) (c:Nat) (w:World) (hn:bs.length=n) (hs:Sl w A c (bs.map bv)) :
    Calls Tryz.prog 9 #[.slice A n c] w (AnyR w bs):=(callsIn_wide (n:=12)).1 (tany_in 12 (by omega) bs n A c w hn hs)
end Go.Proofs.YtpmfdlghckfgiaaGreat
set_option linter.unusedVariables false
set_option maxRecDepth 100000
set_option maxHeartbeats 16000000
namespace Go.Proofs.YtpmfdlghckfgiaaGreat
open Go.RowKit
def MK1:MV:={ ZM with k:=1 }
theorem l12_r1:readR 1 1 [16,3,8,1]=(MH,[],0,0):=by rfl
theorem l12_r2:readR 1 1 [8,0]=(MK1,[],0,0):=by rfl
theorem l12_r3:readR 1 1 [8,1,16,3]=(MH,[],0,0):=by rfl
theorem l12_r4:readR 1 1 []=(MK1,[],0,0):=by rfl
theorem l12_bh:encB MH (ofL ((1:Nat):Int) 1)=[8,1,16,3]:=mh_b
theorem l12_bk:encB MK1 (ofL ((1:Nat):Int) 1)=[]:=by
 unfold encB
 have hc:chkV MK1 (ofL ((1:Nat):Int) 1)=(0,0):=by rw [mh_o];decide +kernel
 rw [hc,if_pos rfl,mh_o]
 have f1:fldR MK1 ⟨1,1,1,1,0⟩=[]:=by show fldB MK1 1 1 0=_;unfold fldB;rw [if_pos (by decide +kernel)]
 have f2:fldR MK1 ⟨1,1,2,1,1⟩=[]:=by show fldB MK1 2 1 1=_;unfold fldB;rw [if_pos (by decide +kernel)]
 have f3:fldR MK1 ⟨1,1,3,7,0⟩=[]:=by show fldB MK1 3 7 0=_;unfold fldB;rw [if_pos (by decide +kernel)]
 rw [List.flatMap_cons,List.flatMap_cons,List.flatMap_cons,List.flatMap_nil,f1,f2,f3]
 rfl
theorem l12_s1:strD 1 1 [16,3,8,1]=(ZM,3,0):=by
 unfold strD;rw [l12_r1,if_pos rfl];simp only;rw [l12_bh,if_neg (by decide)];rfl
theorem l12_s2:strD 1 1 [8,0]=(ZM,3,0):=by
 unfold strD;rw [l12_r2,if_pos rfl];simp only;rw [l12_bk,if_neg (by decide)];rfl
theorem l12_s3:strD 1 1 [8,1,16,3]=(MH,0,0):=by
 unfold strD;rw [l12_r3,if_pos rfl];simp only;rw [l12_bh,if_pos rfl]
theorem l12_s4:strD 1 1 []=(MK1,0,0):=by
 unfold strD;rw [l12_r4,if_pos rfl];simp only;rw [l12_bk,if_pos rfl]
theorem l12_f:strR 1 1 [16,3,8,1]=(MH,[8,1,16,3],0,0):=by
 unfold strR;rw [l12_r1,if_pos rfl];simp only;rw [l12_bh]
theorem l12_d1 (W:World) (N:Nat) (hN:W.heap.size=N):Calls Tryz.prog 6 #[.int .u8 1,.int .i64 1,.slice (some ⟨N,0,none⟩) 4 4] (W.alloc (.cells #[.int .u8 16,.int .u8 3,.int .u8 8,.int .u8 1] 5)) fun e w'=>∃ A' c',e=.returned (.tuple #[.agg #[.int .u8 0,.int .u64 0,.int .u64 0,.int .u64 0,.int .u64 0,.int .u64 0,.int .u64 0,.string ⟨#[]⟩,.string ⟨#[]⟩,.slice A' 0 c'],.agg #[.int .i64 3,.int .i64 0]])/\Below W.heap.size W w':=by
 subst hN
 refine (tdec_any 1 1 [16,3,8,1] 4 _ 4 _ (by decide) (by decide) (by decide) rfl (sl_lit W 5 [16,3,8,1] #[.int .u8 16,.int .u8 3,.int .u8 8,.int .u8 1] 4 rfl (by decide) rfl)).mono ?_
 rw [l12_s1]
 rintro e w' ⟨A',c',rfl,-,hb⟩
 exact ⟨A',c',rfl,(bw_a (Below.refl _ W) _).trans (hb.mono (by simp))⟩
theorem l12_d2 (W:World) (N:Nat) (hN:W.heap.size=N):Calls Tryz.prog 6 #[.int .u8 1,.int .i64 1,.slice (some ⟨N,0,none⟩) 2 2] (W.alloc (.cells #[.int .u8 8,.int .u8 0] 5)) fun e w'=>∃ A' c',e=.returned (.tuple #[.agg #[.int .u8 0,.int .u64 0,.int .u64 0,.int .u64 0,.int .u64 0,.int .u64 0,.int .u64 0,.string ⟨#[]⟩,.string ⟨#[]⟩,.slice A' 0 c'],.agg #[.int .i64 3,.int .i64 0]])/\Below W.heap.size W w':=by
 subst hN
 refine (tdec_any 1 1 [8,0] 2 _ 2 _ (by decide) (by decide) (by decide) rfl (sl_lit W 5 [8,0] #[.int .u8 8,.int .u8 0] 2 rfl (by decide) rfl)).mono ?_
 rw [l12_s2]
 rintro e w' ⟨A',c',rfl,-,hb⟩
 exact ⟨A',c',rfl,(bw_a (Below.refl _ W) _).trans (hb.mono (by simp))⟩
theorem l12_d3 (W:World) (N:Nat) (hN:W.heap.size=N):Calls Tryz.prog 6 #[.int .u8 1,.int .i64 1,.slice (some ⟨N,0,none⟩) 4 4] (W.alloc (.cells #[.int .u8 8,.int .u8 1,.int .u8 16,.int .u8 3] 5)) fun e w'=>∃ A' c',e=.returned (.tuple #[.agg #[.int .u8 1,.int .u64 1,.int .u64 3,.int .u64 0,.int .u64 0,.int .u64 0,.int .u64 0,.string ⟨#[]⟩,.string ⟨#[]⟩,.slice A' 0 c'],.agg #[.int .i64 0,.int .i64 0]])/\Below W.heap.size W w':=by
 subst hN
 refine (tdec_any 1 1 [8,1,16,3] 4 _ 4 _ (by decide) (by decide) (by decide) rfl (sl_lit W 5 [8,1,16,3] #[.int .u8 8,.int .u8 1,.int .u8 16,.int .u8 3] 4 rfl (by decide) rfl)).mono ?_
 rw [l12_s3]
 rintro e w' ⟨A',c',rfl,-,hb⟩
 exact ⟨A',c',rfl,(bw_a (Below.refl _ W) _).trans (hb.mono (by simp))⟩
theorem l12_fix (W:World) (N:Nat) (hN:W.heap.size=N):Calls Tryz.prog 11 #[.int .u8 1,.int .i64 1,.slice (some ⟨N,0,none⟩) 4 4] (W.alloc (.cells #[.int .u8 16,.int .u8 3,.int .u8 8,.int .u8 1] 5)) fun e w'=>∃ A' c',e=.returned (.tuple #[.slice A' 4 c',.agg #[.int .i64 0,.int .i64 0]])/\Sl w' A' c' (([8,1,16,3]:List UInt8).map bv)/\Below W.heap.size W w':=by
 subst hN
 refine (tfix_any 1 1 [16,3,8,1] 4 _ 4 _ (by decide) (by decide) (by decide) rfl (sl_lit W 5 [16,3,8,1] #[.int .u8 16,.int .u8 3,.int .u8 8,.int .u8 1] 4 rfl (by decide) rfl)).mono ?_
 rw [l12_f]
 rintro e w' ⟨A',c',rfl,ho,hb⟩
 exact ⟨A',c',rfl,ho.sl,(bw_a (Below.refl _ W) _).trans (hb.mono (by simp))⟩
theorem l12_any (W:World):Calls Tryz.prog 9 #[.slice none 0 0] W fun e w'=>∃ A' c',e=.returned (.tuple #[.agg #[.int .u8 1,.int .u64 0,.int .u64 0,.int .u64 0,.int .u64 0,.int .u64 0,.int .u64 0,.string ⟨#[]⟩,.string ⟨#[]⟩,.slice A' 0 c'],.int .i64 1,.bool true])/\Below W.heap.size W w':=by
 refine (tany_any [] 0 none 0 W rfl (Sl.nil_ W)).mono ?_
 have h0:anyJ [] 0=true:=by
  unfold anyJ
  show decide ((strD 1 1 []).2.1=0)=true
  rw [l12_s4];rfl
 rintro e w' ⟨(⟨j,A',c',hj,ha,hno,rfl,-⟩ | ⟨hno,-⟩),hb⟩
 ·have hj0:j=0:=by
   by_cases h:j=0
   ·exact h
   ·have:=hno 0 (by omega)
    rw [h0] at this;cases this
  subst hj0
  have e1:strD (0 / 3+1) ((0 % 3+1:Nat):Int) []=(MK1,0,0):=l12_s4
  rw [e1]
  exact ⟨A',c',rfl,hb⟩
 ·have:=hno 0 (by omega)
  rw [h0] at this;cases this
theorem l12_same (W:World) (A:Option Addr) (c N:Nat) (hN:W.heap.size=N) (h:Sl W A c (([8,1,16,3]:List UInt8).map bv)):Calls Tryz.prog 12 #[.slice A 4 c,.slice (some ⟨N,0,none⟩) 4 4] (W.alloc (.cells #[.int .u8 8,.int .u8 1,.int .u8 16,.int .u8 3] 5)) fun e w'=>e=.returned (.bool true)/\Below W.heap.size W w':=by
 subst hN
 refine (same_any [8,1,16,3] [8,1,16,3] A (some ⟨W.heap.size,0,none⟩) c 4 _ (by decide) (h.below (bw_a (Below.refl _ W) _)).rd (sl_lit W 5 [8,1,16,3] #[.int .u8 8,.int .u8 1,.int .u8 16,.int .u8 3] 4 rfl (by decide) rfl).rd).mono ?_
 rintro e w' ⟨rfl,k,rfl⟩
 exact ⟨by rw [decide_eq_true rfl],below_drewN (bw_a (Below.refl _ W) _) k⟩
theorem live12_any (w:World):Calls Tryz.prog 5 #[] w fun e w'=>e=.returned (.bool true)/\Below w.heap.size w w':=by
 have HD1:=hid l12_d1
 have HD2:=hid l12_d2
 have HD3:=hid l12_d3
 have HFX:=hid l12_fix
 have HAN:=hid l12_any
 have HSA:=hid l12_same
 obtain ⟨s,hws⟩:∃ s,w.heap.size=s:=⟨_,rfl⟩
 rw [hws]
 go_enter Tryz.func5,Tryz.ntmps5
 go_wp2_with fail
 refine (HD1.out w s hws).mono ?_
 rintro e w1 ⟨A1,c1,rfl,hb⟩
 have hb0:Below s w w1:=by rw [<-hws];exact hb
 have HBB1:=hid hb0
 clear hb0 hb
 obtain ⟨p1,hz⟩:∃ p1,w1.heap.size=p1:=⟨_,rfl⟩
 go_wp2_with fail
 have hk1:Blk ((w1.alloc (.cells #[.int .u8 0,.int .u64 0,.int .u64 0,.int .u64 0,.int .u64 0,.int .u64 0,.int .u64 0,.string ⟨#[]⟩,.string ⟨#[]⟩,.slice A1 0 c1] 29)).alloc (.cells #[.int .i64 3,.int .i64 0] 32)) (p1) 29 #[.int .u8 0,.int .u64 0,.int .u64 0,.int .u64 0,.int .u64 0,.int .u64 0,.int .u64 0,.string ⟨#[]⟩,.string ⟨#[]⟩,.slice A1 0 c1]:=by
  have h:=((Blk.new w1 29 #[.int .u8 0,.int .u64 0,.int .u64 0,.int .u64 0,.int .u64 0,.int .u64 0,.int .u64 0,.string ⟨#[]⟩,.string ⟨#[]⟩,.slice A1 0 c1]).alloc (.cells #[.int .i64 3,.int .i64 0] 32))
  rw [hz] at h;exact h
 have hk2:Blk ((w1.alloc (.cells #[.int .u8 0,.int .u64 0,.int .u64 0,.int .u64 0,.int .u64 0,.int .u64 0,.int .u64 0,.string ⟨#[]⟩,.string ⟨#[]⟩,.slice A1 0 c1] 29)).alloc (.cells #[.int .i64 3,.int .i64 0] 32)) (p1+1) 32 #[.int .i64 3,.int .i64 0]:=by
  have h:=(Blk.new (w1.alloc (.cells #[.int .u8 0,.int .u64 0,.int .u64 0,.int .u64 0,.int .u64 0,.int .u64 0,.int .u64 0,.string ⟨#[]⟩,.string ⟨#[]⟩,.slice A1 0 c1] 29)) 32 #[.int .i64 3,.int .i64 0])
  rw [World.size_alloc,hz] at h;exact h
 have hb0:Below s w ((w1.alloc (.cells #[.int .u8 0,.int .u64 0,.int .u64 0,.int .u64 0,.int .u64 0,.int .u64 0,.int .u64 0,.string ⟨#[]⟩,.string ⟨#[]⟩,.slice A1 0 c1] 29)).alloc (.cells #[.int .i64 3,.int .i64 0] 32)):=HBB1.out.trans ((bw_a (bw_a (Below.refl w1.heap.size w1) (.cells #[.int .u8 0,.int .u64 0,.int .u64 0,.int .u64 0,.int .u64 0,.int .u64 0,.int .u64 0,.string ⟨#[]⟩,.string ⟨#[]⟩,.slice A1 0 c1] 29)) (.cells #[.int .i64 3,.int .i64 0] 32)).mono (by have:=HBB1.out.size;omega))
 have hsz:(((w1.alloc (.cells #[.int .u8 0,.int .u64 0,.int .u64 0,.int .u64 0,.int .u64 0,.int .u64 0,.int .u64 0,.string ⟨#[]⟩,.string ⟨#[]⟩,.slice A1 0 c1] 29)).alloc (.cells #[.int .i64 3,.int .i64 0] 32))).heap.size=p1+1+1:=by simp [hz]
 generalize hW2:((w1.alloc (.cells #[.int .u8 0,.int .u64 0,.int .u64 0,.int .u64 0,.int .u64 0,.int .u64 0,.int .u64 0,.string ⟨#[]⟩,.string ⟨#[]⟩,.slice A1 0 c1] 29)).alloc (.cells #[.int .i64 3,.int .i64 0] 32))=W2 at *
 have HK1:=hid hk1
 have HK2:=hid hk2
 have HBB2:=hid hb0
 have HSZ2:=hid hsz
 clear hb0 hsz hz hW2 hk1 hk2
 refine (HD2.out _ _ HSZ2.out).mono ?_
 rintro e w3 ⟨A2,c2,rfl,hb⟩
 have hk1:=HK1.out.below hb HK1.out.lt
 have hk2:=HK2.out.below hb HK2.out.lt
 have hb0:Below s w w3:=HBB2.out.trans (hb.mono (by have:=HBB2.out.size;omega))
 have HK1:=hid hk1
 have HK2:=hid hk2
 have HBB3:=hid hb0
 clear hb0 hb hk1 hk2
 obtain ⟨p2,hz⟩:∃ p2,w3.heap.size=p2:=⟨_,rfl⟩
 go_wp2_with fail
 have hk3:Blk ((w3.alloc (.cells #[.int .u8 0,.int .u64 0,.int .u64 0,.int .u64 0,.int .u64 0,.int .u64 0,.int .u64 0,.string ⟨#[]⟩,.string ⟨#[]⟩,.slice A2 0 c2] 29)).alloc (.cells #[.int .i64 3,.int .i64 0] 32)) (p2) 29 #[.int .u8 0,.int .u64 0,.int .u64 0,.int .u64 0,.int .u64 0,.int .u64 0,.int .u64 0,.string ⟨#[]⟩,.string ⟨#[]⟩,.slice A2 0 c2]:=by
  have h:=((Blk.new w3 29 #[.int .u8 0,.int .u64 0,.int .u64 0,.int .u64 0,.int .u64 0,.int .u64 0,.int .u64 0,.string ⟨#[]⟩,.string ⟨#[]⟩,.slice A2 0 c2]).alloc (.cells #[.int .i64 3,.int .i64 0] 32))
  rw [hz] at h;exact h
 have hk4:Blk ((w3.alloc (.cells #[.int .u8 0,.int .u64 0,.int .u64 0,.int .u64 0,.int .u64 0,.int .u64 0,.int .u64 0,.string ⟨#[]⟩,.string ⟨#[]⟩,.slice A2 0 c2] 29)).alloc (.cells #[.int .i64 3,.int .i64 0] 32)) (p2+1) 32 #[.int .i64 3,.int .i64 0]:=by
  have h:=(Blk.new (w3.alloc (.cells #[.int .u8 0,.int .u64 0,.int .u64 0,.int .u64 0,.int .u64 0,.int .u64 0,.int .u64 0,.string ⟨#[]⟩,.string ⟨#[]⟩,.slice A2 0 c2] 29)) 32 #[.int .i64 3,.int .i64 0])
  rw [World.size_alloc,hz] at h;exact h
 have hk1:=((HK1.out.alloc (.cells #[.int .u8 0,.int .u64 0,.int .u64 0,.int .u64 0,.int .u64 0,.int .u64 0,.int .u64 0,.string ⟨#[]⟩,.string ⟨#[]⟩,.slice A2 0 c2] 29)).alloc (.cells #[.int .i64 3,.int .i64 0] 32))
 have hk2:=((HK2.out.alloc (.cells #[.int .u8 0,.int .u64 0,.int .u64 0,.int .u64 0,.int .u64 0,.int .u64 0,.int .u64 0,.string ⟨#[]⟩,.string ⟨#[]⟩,.slice A2 0 c2] 29)).alloc (.cells #[.int .i64 3,.int .i64 0] 32))
 have hb0:Below s w ((w3.alloc (.cells #[.int .u8 0,.int .u64 0,.int .u64 0,.int .u64 0,.int .u64 0,.int .u64 0,.int .u64 0,.string ⟨#[]⟩,.string ⟨#[]⟩,.slice A2 0 c2] 29)).alloc (.cells #[.int .i64 3,.int .i64 0] 32)):=HBB3.out.trans ((bw_a (bw_a (Below.refl w3.heap.size w3) (.cells #[.int .u8 0,.int .u64 0,.int .u64 0,.int .u64 0,.int .u64 0,.int .u64 0,.int .u64 0,.string ⟨#[]⟩,.string ⟨#[]⟩,.slice A2 0 c2] 29)) (.cells #[.int .i64 3,.int .i64 0] 32)).mono (by have:=HBB3.out.size;omega))
 have hsz:(((w3.alloc (.cells #[.int .u8 0,.int .u64 0,.int .u64 0,.int .u64 0,.int .u64 0,.int .u64 0,.int .u64 0,.string ⟨#[]⟩,.string ⟨#[]⟩,.slice A2 0 c2] 29)).alloc (.cells #[.int .i64 3,.int .i64 0] 32))).heap.size=p2+1+1:=by simp [hz]
 generalize hW4:((w3.alloc (.cells #[.int .u8 0,.int .u64 0,.int .u64 0,.int .u64 0,.int .u64 0,.int .u64 0,.int .u64 0,.string ⟨#[]⟩,.string ⟨#[]⟩,.slice A2 0 c2] 29)).alloc (.cells #[.int .i64 3,.int .i64 0] 32))=W4 at *
 have HK1:=hid hk1
 have HK2:=hid hk2
 have HK3:=hid hk3
 have HK4:=hid hk4
 have HBB4:=hid hb0
 have HSZ4:=hid hsz
 clear hb0 hsz hz hW4 hk1 hk2 hk3 hk4
 refine (HD3.out _ _ HSZ4.out).mono ?_
 rintro e w5 ⟨A3,c3,rfl,hb⟩
 have hk1:=HK1.out.below hb HK1.out.lt
 have hk2:=HK2.out.below hb HK2.out.lt
 have hk3:=HK3.out.below hb HK3.out.lt
 have hk4:=HK4.out.below hb HK4.out.lt
 have hb0:Below s w w5:=HBB4.out.trans (hb.mono (by have:=HBB4.out.size;omega))
 have HK1:=hid hk1
 have HK2:=hid hk2
 have HK3:=hid hk3
 have HK4:=hid hk4
 have HBB5:=hid hb0
 clear hb0 hb hk1 hk2 hk3 hk4
 obtain ⟨p3,hz⟩:∃ p3,w5.heap.size=p3:=⟨_,rfl⟩
 go_wp2_with fail
 have hk5:Blk ((w5.alloc (.cells #[.int .u8 1,.int .u64 1,.int .u64 3,.int .u64 0,.int .u64 0,.int .u64 0,.int .u64 0,.string ⟨#[]⟩,.string ⟨#[]⟩,.slice A3 0 c3] 29)).alloc (.cells #[.int .i64 0,.int .i64 0] 32)) (p3) 29 #[.int .u8 1,.int .u64 1,.int .u64 3,.int .u64 0,.int .u64 0,.int .u64 0,.int .u64 0,.string ⟨#[]⟩,.string ⟨#[]⟩,.slice A3 0 c3]:=by
  have h:=((Blk.new w5 29 #[.int .u8 1,.int .u64 1,.int .u64 3,.int .u64 0,.int .u64 0,.int .u64 0,.int .u64 0,.string ⟨#[]⟩,.string ⟨#[]⟩,.slice A3 0 c3]).alloc (.cells #[.int .i64 0,.int .i64 0] 32))
  rw [hz] at h;exact h
 have hk6:Blk ((w5.alloc (.cells #[.int .u8 1,.int .u64 1,.int .u64 3,.int .u64 0,.int .u64 0,.int .u64 0,.int .u64 0,.string ⟨#[]⟩,.string ⟨#[]⟩,.slice A3 0 c3] 29)).alloc (.cells #[.int .i64 0,.int .i64 0] 32)) (p3+1) 32 #[.int .i64 0,.int .i64 0]:=by
  have h:=(Blk.new (w5.alloc (.cells #[.int .u8 1,.int .u64 1,.int .u64 3,.int .u64 0,.int .u64 0,.int .u64 0,.int .u64 0,.string ⟨#[]⟩,.string ⟨#[]⟩,.slice A3 0 c3] 29)) 32 #[.int .i64 0,.int .i64 0])
  rw [World.size_alloc,hz] at h;exact h
 have hk1:=((HK1.out.alloc (.cells #[.int .u8 1,.int .u64 1,.int .u64 3,.int .u64 0,.int .u64 0,.int .u64 0,.int .u64 0,.string ⟨#[]⟩,.string ⟨#[]⟩,.slice A3 0 c3] 29)).alloc (.cells #[.int .i64 0,.int .i64 0] 32))
 have hk2:=((HK2.out.alloc (.cells #[.int .u8 1,.int .u64 1,.int .u64 3,.int .u64 0,.int .u64 0,.int .u64 0,.int .u64 0,.string ⟨#[]⟩,.string ⟨#[]⟩,.slice A3 0 c3] 29)).alloc (.cells #[.int .i64 0,.int .i64 0] 32))
 have hk3:=((HK3.out.alloc (.cells #[.int .u8 1,.int .u64 1,.int .u64 3,.int .u64 0,.int .u64 0,.int .u64 0,.int .u64 0,.string ⟨#[]⟩,.string ⟨#[]⟩,.slice A3 0 c3] 29)).alloc (.cells #[.int .i64 0,.int .i64 0] 32))
 have hk4:=((HK4.out.alloc (.cells #[.int .u8 1,.int .u64 1,.int .u64 3,.int .u64 0,.int .u64 0,.int .u64 0,.int .u64 0,.string ⟨#[]⟩,.string ⟨#[]⟩,.slice A3 0 c3] 29)).alloc (.cells #[.int .i64 0,.int .i64 0] 32))
 have hb0:Below s w ((w5.alloc (.cells #[.int .u8 1,.int .u64 1,.int .u64 3,.int .u64 0,.int .u64 0,.int .u64 0,.int .u64 0,.string ⟨#[]⟩,.string ⟨#[]⟩,.slice A3 0 c3] 29)).alloc (.cells #[.int .i64 0,.int .i64 0] 32)):=HBB5.out.trans ((bw_a (bw_a (Below.refl w5.heap.size w5) (.cells #[.int .u8 1,.int .u64 1,.int .u64 3,.int .u64 0,.int .u64 0,.int .u64 0,.int .u64 0,.string ⟨#[]⟩,.string ⟨#[]⟩,.slice A3 0 c3] 29)) (.cells #[.int .i64 0,.int .i64 0] 32)).mono (by have:=HBB5.out.size;omega))
 have hsz:(((w5.alloc (.cells #[.int .u8 1,.int .u64 1,.int .u64 3,.int .u64 0,.int .u64 0,.int .u64 0,.int .u64 0,.string ⟨#[]⟩,.string ⟨#[]⟩,.slice A3 0 c3] 29)).alloc (.cells #[.int .i64 0,.int .i64 0] 32))).heap.size=p3+1+1:=by simp [hz]
 generalize hW6:((w5.alloc (.cells #[.int .u8 1,.int .u64 1,.int .u64 3,.int .u64 0,.int .u64 0,.int .u64 0,.int .u64 0,.string ⟨#[]⟩,.string ⟨#[]⟩,.slice A3 0 c3] 29)).alloc (.cells #[.int .i64 0,.int .i64 0] 32))=W6 at *
 have HK1:=hid hk1
 have HK2:=hid hk2
 have HK3:=hid hk3
 have HK4:=hid hk4
 have HK5:=hid hk5
 have HK6:=hid hk6
 have HBB6:=hid hb0
 have HSZ6:=hid hsz
 clear hb0 hsz hz hW6 hk1 hk2 hk3 hk4 hk5 hk6
 refine (HFX.out _ _ HSZ6.out).mono ?_
 rintro e w7 ⟨A4,c4,rfl,hs4,hb⟩
 have hk1:=HK1.out.below hb HK1.out.lt
 have hk2:=HK2.out.below hb HK2.out.lt
 have hk3:=HK3.out.below hb HK3.out.lt
 have hk4:=HK4.out.below hb HK4.out.lt
 have hk5:=HK5.out.below hb HK5.out.lt
 have hk6:=HK6.out.below hb HK6.out.lt
 have hb0:Below s w w7:=HBB6.out.trans (hb.mono (by have:=HBB6.out.size;omega))
 have HK1:=hid hk1
 have HK2:=hid hk2
 have HK3:=hid hk3
 have HK4:=hid hk4
 have HK5:=hid hk5
 have HK6:=hid hk6
 have HS4:=hid hs4
 have HBB7:=hid hb0
 clear hb0 hb hk1 hk2 hk3 hk4 hk5 hk6 hs4
 obtain ⟨p4,hz⟩:∃ p4,w7.heap.size=p4:=⟨_,rfl⟩
 go_wp2_with fail
 have hk8:Blk (w7.alloc (.cells #[.int .i64 0,.int .i64 0] 32)) (p4) 32 #[.int .i64 0,.int .i64 0]:=by
  have h:=(Blk.new w7 32 #[.int .i64 0,.int .i64 0])
  rw [hz] at h;exact h
 have hk1:=(HK1.out.alloc (.cells #[.int .i64 0,.int .i64 0] 32))
 have hk2:=(HK2.out.alloc (.cells #[.int .i64 0,.int .i64 0] 32))
 have hk3:=(HK3.out.alloc (.cells #[.int .i64 0,.int .i64 0] 32))
 have hk4:=(HK4.out.alloc (.cells #[.int .i64 0,.int .i64 0] 32))
 have hk5:=(HK5.out.alloc (.cells #[.int .i64 0,.int .i64 0] 32))
 have hk6:=(HK6.out.alloc (.cells #[.int .i64 0,.int .i64 0] 32))
 have hs4:=HS4.out.below (bw_a (Below.refl w7.heap.size w7) (.cells #[.int .i64 0,.int .i64 0] 32))
 have hb0:Below s w (w7.alloc (.cells #[.int .i64 0,.int .i64 0] 32)):=HBB7.out.trans ((bw_a (Below.refl w7.heap.size w7) (.cells #[.int .i64 0,.int .i64 0] 32)).mono (by have:=HBB7.out.size;omega))
 have hsz:((w7.alloc (.cells #[.int .i64 0,.int .i64 0] 32))).heap.size=p4+1:=by simp [hz]
 generalize hW8:(w7.alloc (.cells #[.int .i64 0,.int .i64 0] 32))=W8 at *
 have HK1:=hid hk1
 have HK2:=hid hk2
 have HK3:=hid hk3
 have HK4:=hid hk4
 have HK5:=hid hk5
 have HK6:=hid hk6
 have HK8:=hid hk8
 have HS4:=hid hs4
 have HBB8:=hid hb0
 have HSZ8:=hid hsz
 clear hb0 hsz hz hW8 hk1 hk2 hk3 hk4 hk5 hk6 hk8 hs4
 refine (HAN.out _).mono ?_
 rintro e w9 ⟨A5,c5,rfl,hb⟩
 have hk1:=HK1.out.below hb HK1.out.lt
 have hk2:=HK2.out.below hb HK2.out.lt
 have hk3:=HK3.out.below hb HK3.out.lt
 have hk4:=HK4.out.below hb HK4.out.lt
 have hk5:=HK5.out.below hb HK5.out.lt
 have hk6:=HK6.out.below hb HK6.out.lt
 have hk8:=HK8.out.below hb HK8.out.lt
 have hs4:=HS4.out.below hb
 have hb0:Below s w w9:=HBB8.out.trans (hb.mono (by have:=HBB8.out.size;omega))
 have HK1:=hid hk1
 have HK2:=hid hk2
 have HK3:=hid hk3
 have HK4:=hid hk4
 have HK5:=hid hk5
 have HK6:=hid hk6
 have HK8:=hid hk8
 have HS4:=hid hs4
 have HBB9:=hid hb0
 clear hb0 hb hk1 hk2 hk3 hk4 hk5 hk6 hk8 hs4
 have zhk20:=HK2.out.cell 0
 have zhk21:=HK2.out.cell 1
 have lhk2:=HK2.out.lt
 have zhk40:=HK4.out.cell 0
 have zhk41:=HK4.out.cell 1
 have lhk4:=HK4.out.lt
 have zhk52:=HK5.out.cell 2
 have lhk5:=HK5.out.lt
 have zhk60:=HK6.out.cell 0
 have zhk61:=HK6.out.cell 1
 have lhk6:=HK6.out.lt
 have zhk80:=HK8.out.cell 0
 have zhk81:=HK8.out.cell 1
 have lhk8:=HK8.out.lt
 simp only [gA,gB,gC] at zhk20 zhk21 zhk40 zhk41 zhk52 zhk60 zhk61 zhk80 zhk81
 obtain ⟨p5,hz⟩:∃ p5,w9.heap.size=p5:=⟨_,rfl⟩
 rw [hz] at lhk2
 rw [hz] at lhk4
 rw [hz] at lhk5
 rw [hz] at lhk6
 rw [hz] at lhk8
 have hs5:=HS4.out
 go_wp2_with fail
 refine (HSA.out (w9.alloc (.cells #[.int .u8 1,.int .u64 0,.int .u64 0,.int .u64 0,.int .u64 0,.int .u64 0,.int .u64 0,.string ⟨#[]⟩,.string ⟨#[]⟩,.slice A5 0 c5] 29)) A4 c4 (p5+1) (by rw [World.size_alloc,hz]) (hs5.below (bw_a (Below.refl _ w9) _))).mono ?_
 rintro e w10 ⟨rfl,hb⟩
 have hbF:=HBB9.out.trans (((bw_a (Below.refl w9.heap.size w9) (.cells #[.int .u8 1,.int .u64 0,.int .u64 0,.int .u64 0,.int .u64 0,.int .u64 0,.int .u64 0,.string ⟨#[]⟩,.string ⟨#[]⟩,.slice A5 0 c5] 29)).trans (hb.mono (by simp))).mono (by have:=HBB9.out.size;omega))
 have h8:=(HK8.out.alloc (.cells #[.int .u8 1,.int .u64 0,.int .u64 0,.int .u64 0,.int .u64 0,.int .u64 0,.int .u64 0,.string ⟨#[]⟩,.string ⟨#[]⟩,.slice A5 0 c5] 29)).below hb (HK8.out.alloc (.cells #[.int .u8 1,.int .u64 0,.int .u64 0,.int .u64 0,.int .u64 0,.int .u64 0,.int .u64 0,.string ⟨#[]⟩,.string ⟨#[]⟩,.slice A5 0 c5] 29)).lt
 have h9:=(Blk.new w9 29 #[.int .u8 1,.int .u64 0,.int .u64 0,.int .u64 0,.int .u64 0,.int .u64 0,.int .u64 0,.string ⟨#[]⟩,.string ⟨#[]⟩,.slice A5 0 c5]).below hb (by simp)
 rw [hz] at h9
 clear lhk2 lhk4 lhk5 lhk6 lhk8 zhk20 zhk21 zhk40 zhk41 zhk52 zhk60 zhk61 zhk80 zhk81 hb
 have y0:=h8.cell 0
 have y1:=h8.cell 1
 have u0:=h9.cell 0
 simp only [gA,gB,gC] at y0 y1 u0
 go_wp2_with fail
 go_ret
 exact ⟨rfl,hbF⟩
end Go.Proofs.YtpmfdlghckfgiaaGreat
set_option linter.unusedVariables false
set_option maxRecDepth 100000
set_option maxHeartbeats 16000000
namespace Go.Proofs.YtpmfdlghckfgiaaGreat
open Go.RowKit
theorem dec_st {k:Nat} {v:Int} {bs:List UInt8} {n:Nat} {A:Option Addr} {c:Nat} {w:World} (hk:k<=255) (hv1 : -9223372036854775808<=v) (hv2:v<=9223372036854775807) (hn:bs.length=n) (hs:Sl w A c (bs.map bv)) {R:MV} {E:Int} {P:Nat} (hR:strD k v bs=(R,E,P)) :
  Calls Tryz.prog 6 #[.int .u8 (k:Int),.int .i64 v,.slice A n c] w fun e w'=>∃ A' c',e=.returned (.tuple #[.agg #[.int .u8 (R.k:Int),.int .u64 (R.n0:Int),.int .u64 (R.n1:Int),.int .u64 (R.n2:Int),.int .u64 (R.n3:Int),.int .u64 (R.n4:Int),.int .u64 (R.n5:Int),.string R.s0,.string R.s1,.slice A' R.l.length c'],.agg #[.int .i64 E,.int .i64 (P:Int)]])/\Sl w' A' c' (R.l.map sv)/\Below w.heap.size w w':=by
 refine (tdec_any k v bs n A c w hk hv1 hv2 hn hs).mono ?_
 rw [hR]
 rintro e w' ⟨A',c',rfl,ho,hb⟩
 exact ⟨_,_,rfl,ho.sl,hb⟩
end Go.Proofs.YtpmfdlghckfgiaaGreat
