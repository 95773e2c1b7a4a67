/- varint.Get and the document's Get. · vari -/
import Derived.Test.YtpmfdlghckfgiaaGreatProg
import Derived.Test.YtpmfdlghckfgiaaGreatG0
import Derived.Deep.LoopGhost
import Derived.Maps.AppendAt
import Derived.RangeFuncNested
import Derived.RangeFuncBound
import Derived.RangeFuncCalls
import Derived.RangeFuncLeaves
import Derived.RangeFuncBox
import Derived.Shelf.Abstract
import Derived.Shelf.RegionOpen
import Derived.WalkKit
import Derived.OwnWalkIn
import Derived.TacticsInMore
import Derived.LoopNIn
import Derived.LoopIn
import Derived.Deep.QuietTactic
import Derived.BigQuiet
import Derived.Lib.Strings
import Derived.Lib.Slices
import Derived.Lib.Small
import Derived.Lib.Walk
import Derived.Lib.BitFns
set_option linter.unusedVariables false
set_option maxRecDepth 100000
set_option maxHeartbeats 16000000
namespace Go.Proofs.YtpmfdlghckfgiaaGreat
open Go.RowKit
theorem get_any (bs:List UInt8) (A:Option Addr) (c:Nat) (w:World) (hl:bs.length<=9223372036854775807) (hR:BRd w A bs) :
  Calls Tryz.prog 131 #[.slice A bs.length c] w fun e w'=>e=.returned (.tuple #[.int .u64 (M.get bs).1,.int .i64 (M.get bs).2.1,.int .i64 (M.get bs).2.2])/\w=w':=by
 go_enter Tryz.func131,Tryz.ntmps131
 go_wp2
 go_step3
 go_wp2
 go_step3
 go_wp2
 go_loop [5,6,7,8,9,12] (fun n s _ _ _ i=>∃ k acc:Nat,k<=bs.length/\k<=9/\i=.int .i64 k/\n=.int .u64 acc/\s=.int .i64 0/\acc < 128 ^ k/\M.get bs=M.getF k acc (bs.drop k))
  (fun _ _ _ _ _ i=>bs.length - (intOf i).toNat)
 case atStart=>exact ⟨0,0,by omega,by omega,rfl,rfl,rfl,by simp,by simp [M.get]⟩
 case round =>
  obtain ⟨k,acc,hk,hk9,rfl,rfl,rfl,hacc,hget⟩:=hrel
  have HG:=hid hget
  clear hget
  have HA:=hid hacc
  clear hacc
  by_cases hlt:k < bs.length
  ·have hs:=M.getF_at (acc:=acc) hlt
   obtain ⟨b,off,rfl,hb,hc⟩:=hR.at_ hlt
   have hx:=bs[k].toNat_lt
   generalize bs[k].toNat=y at *
   have HS:=hid hs
   clear hs
   by_cases h9:k=9
   ·subst h9
    by_cases y1:128<=y
    ·go_wp2
     go_ret3
     rw [HG.out,HS.out]
     exact ⟨by simp [y1],rfl⟩
    by_cases y2:1 < y
    ·go_wp2
     go_ret3
     rw [HG.out,HS.out]
     exact ⟨by simp [y1,y2],rfl⟩
    ·go_wp2
     go_ret3
     rw [M.get_wrap9 HA.out (by omega),HG.out,HS.out]
     exact ⟨by simp [y1,y2],rfl⟩
   ·have h9':k < 9:=by omega
    by_cases y1:y < 128
    ·have hk0:((k:Int)+1 == 0)=false:=by simp;omega
     go_wp2
     go_ret3
     rw [M.get_wrap hk9 HA.out y1 (by omega)]
     rw [HG.out,HS.out]
     exact ⟨by simp [h9,y1],rfl⟩
    ·go_wp2
     go_round
     case rel=>exact ⟨k+1,acc+(y - 128) * 128 ^ k,by omega,by omega,by go_num,by rw [M.get_wrap' h9' HA.out (by omega) (by omega)],rfl,M.get_acc HA.out (by omega),by rw [HG.out,HS.out,if_neg h9,if_neg y1]⟩
     case measure=>simp [intOf];omega
  ·have hs:=M.getF_end (acc:=acc) (show bs.length<=k by omega)
   have HS:=hid hs
   clear hs
   go_wp2
   go_ret3
   rw [HG.out,HS.out]
   exact ⟨rfl,rfl⟩
theorem rget_any (bs:List UInt8) (A:Option Addr) (c:Nat) (w:World) (hl:bs.length<=9223372036854775807) (hR:BRd w A bs) :
  Calls Tryz.prog 84 #[.slice A bs.length c] w fun e w'=>e=.returned (.tuple #[.int .u64 (M.get bs).1,.int .i64 (M.get bs).2.1,.int .i64 (M.get bs).2.2])/\w=w':=by
 go_enter Tryz.func84,Tryz.ntmps84
 go_wp2
 go_loop [5,6,7] (fun n m i=>∃ k acc:Nat,k<=bs.length/\k<=9/\i=.int .i64 k/\n=.int .u64 acc/\m=.int .u64 ((128 ^ k:Nat):Int)/\acc < 128 ^ k/\M.get bs=M.getF k acc (bs.drop k))
  (fun _ _ i=>bs.length - (intOf i).toNat)
 case atStart=>exact ⟨0,0,by omega,by omega,rfl,rfl,rfl,by simp,by simp [M.get]⟩
 case round =>
  obtain ⟨k,acc,hk,hk9,rfl,rfl,rfl,hacc,hget⟩:=hrel
  have HG:=hid hget
  clear hget
  by_cases hlt:k < bs.length
  ·have hs:=M.getF_at (acc:=acc) hlt
   have hkb:((k:Int) == (bs.length:Int))=false:=by simp;omega
   obtain ⟨b,off,rfl,hb,hc⟩:=hR.at_ hlt
   have hx:=bs[k].toNat_lt
   generalize bs[k].toNat=y at *
   have HS:=hid hs
   clear hs
   by_cases h9:k=9
   ·subst h9
    have HA:=hid hacc
    clear hacc
    by_cases y1:128<=y
    ·go_wp2
     go_ret3
     rw [HG.out,HS.out]
     exact ⟨by simp [y1],rfl⟩
    by_cases y2:2<=y
    ·have d1:decide ((128:Int)<=(y:Int))=false:=by simp;omega
     have d2:decide ((2:Int)<=(y:Int))=true:=by simp;omega
     go_wp2
     go_ret3
     rw [HG.out,HS.out]
     exact ⟨by simp [y1,show 1 < y by omega],rfl⟩
    ·have d1:decide ((128:Int)<=(y:Int))=false:=by simp;omega
     have d2:decide ((2:Int)<=(y:Int))=false:=by simp;omega
     go_wp2
     go_ret3
     rw [M.rget_wrap9 HA.out (by omega),HG.out,HS.out]
     exact ⟨by simp [y1,show ¬ 1 < y by omega],rfl⟩
   ·have hk9b:((k:Int) == 9)=false:=by simp;omega
    have h9':k < 9:=by omega
    have hm8:(128:Nat) ^ k<=128 ^ 8:=Nat.pow_le_pow_right (by omega) (by omega)
    have hp:=M.get_acc (y:=y) hacc (by omega)
    have hps:(128:Nat) ^ (k+1)=128 ^ k * 128:=Nat.pow_succ ..
    have hw:=M.rget_wrap h9' hacc hx
    have HPS:=hid hps
    have HW:=hid hw
    clear hps hw
    generalize hM:(128 ^ k:Nat)=P at *
    clear hM
    by_cases y1:y < 128
    ·go_wp2
     go_ret3
     rw [HW.out,show y % 128=y from by omega,HG.out,HS.out]
     exact ⟨by simp [h9,y1],rfl⟩
    ·go_wp2
     go_round
     case rel=>exact ⟨k+1,acc+(y - 128) * P,by omega,by omega,by go_num,by rw [HW.out,show y % 128=y - 128 from by omega],by rw [HPS.out];go_num,hp,by rw [HG.out,HS.out,if_neg h9,if_neg y1]⟩
     case measure=>simp [intOf];omega
  ·have hs:=M.getF_end (acc:=acc) (show bs.length<=k by omega)
   have hkb:((k:Int) == (bs.length:Int))=true:=by simp;omega
   have HS:=hid hs
   have HA:=hid hacc
   clear hs hacc
   go_wp2
   go_ret3
   rw [HG.out,HS.out]
   exact ⟨rfl,rfl⟩
end Go.Proofs.YtpmfdlghckfgiaaGreat
namespace Go.Proofs.YtpmfdlghckfgiaaGreat
open Go.RowKit
theorem Tryz.info24:(Tryz.prog.info? 24).map (fun i=>(i.zero,i.size,i.bytes))=some (some (.int .u64 0),1,8):=by kernel_rfl
theorem get_at (bs:List UInt8) (n:Nat) (A:Option Addr) (c:Nat) (w:World) (hn:bs.length=n) (hl:n<=9223372036854775807) (hR:BRd w A bs) :
  Calls Tryz.prog 131 #[.slice A n c] w fun e w'=>e=.returned (.tuple #[.int .u64 (M.get bs).1,.int .i64 (M.get bs).2.1,.int .i64 (M.get bs).2.2])/\w=w':=by
 subst hn;exact get_any bs A c w hl hR
theorem rget_at (bs:List UInt8) (n:Nat) (A:Option Addr) (c:Nat) (w:World) (hn:bs.length=n) (hl:n<=9223372036854775807) (hR:BRd w A bs) :
  Calls Tryz.prog 84 #[.slice A n c] w fun e w'=>e=.returned (.tuple #[.int .u64 (M.get bs).1,.int .i64 (M.get bs).2.1,.int .i64 (M.get bs).2.2])/\w=w':=by
 subst hn;exact rget_any bs A c w hl hR
theorem BRd.drop {w:World} {b off:Nat} {bs:List UInt8} (h:BRd w (some ⟨b,off,none⟩) bs) (k:Nat):BRd w (some ⟨b,off+k,none⟩) (bs.drop k):=by
 intro j u hj
 rw [List.map_drop,List.getElem?_drop] at hj
 obtain ⟨b',off',he,hlt,hc⟩:=h (k+j) u hj
 injection he with he;injection he with h1 h2;subst h1;subst h2
 exact ⟨b,off+k,rfl,hlt,by rw [Nat.add_assoc];exact hc⟩
end Go.Proofs.YtpmfdlghckfgiaaGreat
namespace Go.Proofs.YtpmfdlghckfgiaaGreat
open Go.RowKit Go.Shelf
attribute [local go_sem] Oper.semAt_some
abbrev Sev:Type:={ p:Nat × Bool // p.1 < 128 }
abbrev sevEnc (x:Sev):Array Value:=#[.int .u8 (x.1.1:Int),.bool x.1.2]
def sevs (n:Nat):List Sev:=if h:n < 128 then [⟨(n,false),h⟩] else ⟨(n % 128,true),by omega⟩ :: sevs (n / 128)
 termination_by n
 decreasing_by omega
theorem sevens_in (F:Fence) (k:Nat) (hf:F.fn 128) (hro:F.round=none) (n:Int) (w:World) :
  CallsIn F k Tryz.prog 128 #[.int .u64 n] w fun e w'=>e=.returned (.func (.func 136) #[] #[.pointer (some ⟨w.heap.size,0,none⟩)])/\w'=w.alloc (.cells #[.int .u64 n] 24):=by
 refine callsIn_of_wp Tryz.func128 rfl hf ?_ hro
 simp only [Tryz.ntmps128,List.size_toArray,List.length_cons,List.length_nil,Nat.reduceAdd,Nat.reduceSub,Array.replicate_succ,Array.replicate_zero,List.push_toArray,List.append_toArray,List.nil_append,List.cons_append]
 gi_wp2
 go_ret
 exact ⟨rfl,rfl⟩
theorem sevens1_in (F:Fence) (k:Nat) (hf:F.fn 136) (hro:F.round=none) (hn:1<=k) (l Bn n₀:Nat) (n:Nat) (hn64:n<=18446744073709551615) (J Jx:List Sev->World->Prop)
  (hY:∀ pre x W,J pre W->pre.length < (sevs n).length->YieldAt F (k - 1) Tryz.prog l (sevEnc x) W fun e W' =>
   (e=.returned (.bool true)/\J (pre++[x]) W'/\Below n₀ W W')\/(e=.returned (.bool false)/\Jx (pre++[x]) W'))
  (W:World) (hBn:W.cell? ⟨Bn,0,none⟩=some (.int .u64 (n:Int))) (h0:J [] W) :
  CallsIn F k Tryz.prog 136 #[.func (.yield l) #[] #[],.pointer (some ⟨Bn,0,none⟩)] W fun e W'=>(∃ v,e=.returned v) /\
   ((∃ ys,ys=sevs n/\J ys W')\/(∃ pre,pre <+: sevs n/\Jx pre W')):=by
 refine callsIn_of_wp Tryz.func136 rfl hf ?_ hro
 simp only [Tryz.ntmps136,List.size_toArray,List.length_cons,List.length_nil,Nat.reduceAdd,Nat.reduceSub,Array.replicate_succ,Array.replicate_zero,List.push_toArray,List.append_toArray,List.nil_append,List.cons_append]
 gi_wp2
 gi_loopw [3] (fun p wr=>∃ (pre:List Sev) (m:Nat),p=.int .u64 (m:Int)/\m<=n/\sevs n=pre++sevs m/\J pre wr)
  (fun p _=>(intOf p).toNat)
 case atStart =>
  exact ⟨[],n,rfl,by omega,rfl,h0⟩
 case round =>
  obtain ⟨pre,m,rfl,hm,hx,hJs⟩:=hrel
  have HX:=hid hx
  clear hx
  by_cases hlt:m < 128
  ·have e:sevs m=[⟨(m,false),hlt⟩]:=by rw [sevs,dif_pos hlt]
   obtain ⟨fn,tmps,assign,body,hy,hR⟩:=hY pre ⟨(m,false),hlt⟩ wr hJs (by rw [HX.out,e];simp)
   have E:=hid e
   clear e
   dsimp only [sevEnc] at hy
   gi_wp2
   refine hR.mono ?_
   rintro e W3 (⟨rfl,hJ3,hk3⟩ | ⟨rfl,hJx3⟩)
   ·gi_wp2
    refine bodyPost_ret (results_none rfl _ _ _) rfl ?_
    exact ⟨⟨_,rfl⟩,.inl ⟨_,by rw [HX.out,E.out],hJ3⟩⟩
   ·gi_wp2
    refine bodyPost_ret (results_none rfl _ _ _) rfl ?_
    exact ⟨⟨_,rfl⟩,.inr ⟨_,by rw [HX.out,E.out];exact List.prefix_rfl,hJx3⟩⟩
  ·have e:sevs m=⟨(m % 128,true),by omega⟩ :: sevs (m / 128):=by rw [sevs,dif_neg hlt]
   obtain ⟨fn,tmps,assign,body,hy,hR⟩:=hY pre ⟨(m % 128,true),by omega⟩ wr hJs (by rw [HX.out,e];simp)
   have E:=hid e
   clear e
   dsimp only [sevEnc] at hy
   rw [show ((m % 128:Nat):Int)=(m:Int) % 128 from by omega] at hy
   gi_wp2
   refine hR.mono ?_
   rintro e W3 (⟨rfl,hJ3,hk3⟩ | ⟨rfl,hJx3⟩)
   ·gi_wp2
    go_roundw
    case rel=>exact ⟨pre++[⟨(m % 128,true),by omega⟩],m / 128,by rw [show (m:Int) / 128=((m / 128:Nat):Int) from by omega],by omega,by rw [HX.out,E.out];simp,hJ3⟩
    case measure=>simp [intOf];omega
   ·gi_wp2
    refine bodyPost_ret (results_none rfl _ _ _) rfl ?_
    exact ⟨⟨_,rfl⟩,.inr ⟨_,by rw [HX.out,E.out];exact ⟨sevs (m / 128),by simp⟩,hJx3⟩⟩
theorem sevens_stops (F:Fence) (k:Nat) (hf:F.fn 136) (hro:F.round=none) (hn:1<=k) (Bn n₀:Nat) (n:Nat) (hn64:n<=18446744073709551615) (w:World) (hBn:Bn < w.heap.size)
  (hc:w.cell? ⟨Bn,0,none⟩=some (.int .u64 (n:Int))) :
  SeqStopsK F k Tryz.prog 136 #[.pointer (some ⟨Bn,0,none⟩)] sevEnc (Below n₀) (fun ys=>ys=sevs n) (fun pre=>pre <+: sevs n) (sevs n).length w:=fun l J Jx W hW _ _ hY h0 =>
 sevens1_in F k hf hro hn l Bn n₀ n hn64 J Jx hY W ((hW.cell (p:=⟨Bn,0,none⟩) hBn).trans hc) h0
end Go.Proofs.YtpmfdlghckfgiaaGreat
namespace Go.Proofs.YtpmfdlghckfgiaaGreat
open Go.RowKit Go.Shelf
attribute [local go_sem] Oper.semAt_some
def sevB (x:Sev):UInt8:=if x.1.2 then UInt8.ofNat (x.1.1+128) else UInt8.ofNat x.1.1
def putN (n:Nat):List UInt8:=(sevs n).map sevB
theorem sevs_length (k:Nat):∀ n,n < 128 ^ (k+1)->(sevs n).length<=k+1:=by
 induction k with
 | zero=>intro n h;rw [sevs,dif_pos (by simpa using h)];simp
 | succ k ih =>
  intro n h
  rw [sevs]
  split
  ·simp
  ·have:=ih (n / 128) (by rw [Nat.div_lt_iff_lt_mul (by omega),<-Nat.pow_succ];exact h)
   simp;omega
theorem sevs_length10 {n:Nat} (h:n<=18446744073709551615):(sevs n).length<=10:=sevs_length 9 n (by omega)
abbrev sevBs (xs:List Sev):List Value:=xs.map fun x=>bv (sevB x)
theorem Put_in (F:Fence) (k:Nat) (hf1:F.fn 113) (hf2:F.fn 128) (hf3:F.fn 136) (hro:F.round=none) (hn:3<=k) (n:Nat) (hn64:n<=18446744073709551615) (w:World) :
  CallsIn F k Tryz.prog 113 #[.int .u64 (n:Int)] w fun e W'=>∃ v,e=.returned v/\W'.ownsRow w.heap.size 5 1 v (putN n).length ((putN n).map bv)/\Below w.heap.size w W':=by
 have h1:1<=k:=by omega
 obtain ⟨i0,hi,hz0,hz1,hz2⟩:=info_parts Tryz.info5
 have hmk:∀ u:World,(Instr.makeSlice 22 (.int .i64 0) (.int .i64 10)).run Tryz.prog u=.ok (.slice (some ⟨u.heap.size,0,none⟩) 0 10) (u.alloc (.cells #[.int .u8 0,.int .u8 0,.int .u8 0,.int .u8 0,.int .u8 0,.int .u8 0,.int .u8 0,.int .u8 0,.int .u8 0,.int .u8 0] 5)):=fun _=>by kernel_rfl
 refine callsIn_of_wp_marks Tryz.func113 rfl hf1 ?_ hro
 simp only [Tryz.ntmps113,List.size_toArray,List.length_cons,List.length_nil,Nat.reduceAdd,Nat.reduceSub,Array.replicate_succ,Array.replicate_zero,List.push_toArray,List.append_toArray,List.nil_append,List.cons_append]
 gi_wp2_with (gi_at_call 128;refine (sevens_in F (k - 1) hf2 hro _ _).mono ?_;rintro e w' ⟨rfl,rfl⟩)
 have hlen:=sevs_length10 hn64
 generalize hW0:(w.alloc _)=Wa
 have bO:=Boxed.new Wa 22 (.slice (some ⟨w.heap.size,0,none⟩) 0 10)
 have bN:=Boxed.new (Wa.alloc (.cells #[.slice (some ⟨w.heap.size,0,none⟩) 0 10] 22)) 24 (.int .u64 (n:Int))
 have hz:Wa.heap.size=w.heap.size+1:=by rw [<-hW0];simp
 rw [World.size_alloc,hz] at bN
 rw [hz] at bO
 have hrow:Wa.ownsRow w.heap.size 5 1 (.slice (some ⟨w.heap.size,0,none⟩) 0 10) 0 []:=by
  rw [<-hW0];exact World.ownsRow_made _ _ _ (Nat.le_refl _) (by decide) rfl
 have hBa:Below w.heap.size w Wa:=by rw [<-hW0];exact (Below.refl _ w).alloc (Nat.le_refl _) _
 have hB0:Below w.heap.size w ((Wa.alloc (.cells #[.slice (some ⟨w.heap.size,0,none⟩) 0 10] 22)).alloc (.cells #[.int .u64 (n:Int)] 24)):=(hBa.alloc hBa.size _).alloc (by simp;omega) _
 clear hW0
 refine wpIn_rangeFunc_ownG hro h1 (gf:=136) (lb:=#[.pointer (some ⟨w.heap.size+1+1,0,none⟩)]) rfl hf3 (enters_of Tryz.func136 (by kernel_rfl) rfl)
  (sevens_stops F (k - 1) hf3 hro (by omega) (w.heap.size+1+1) w.heap.size n hn64 _ (by simp;omega) bN.cell) belowK_t (belowK_b (by simp;omega)) (Below.refl _ _) (fun _=>rfl)
  (fun pre W=>(∃ v,Boxed W (w.heap.size+1) 22 v/\W.ownsRow w.heap.size 5 1 v pre.length (sevBs pre)/\True)/\Below w.heap.size w W)
  (fun _ _ _=>False)
  (OwnFrom.and (Own.from (holdsRow_own w.heap.size (w.heap.size+1) 22 5 1 (fun pre=>pre.length) sevBs (fun _ _=>True)) _) (ownFrom_below (Nat.le_refl _) (by simp;omega)))
  (fun _ _ _ _ _ hs _ _=>hs)
  ⟨⟨_,bO.alloc _,(hrow.alloc _).alloc _,trivial⟩,hB0⟩
  (fun x=>{ tmps:=#[.int .u64 (n:Int),undef,.slice none 0 0,.pointer (some ⟨w.heap.size+1,0,none⟩),.int .u8 (x.1.1:Int),.bool x.1.2,.slice (some ⟨w.heap.size,0,none⟩) 0 10,.int .u64 (n:Int),.func (.func 136) #[] #[.pointer (some ⟨w.heap.size+1+1,0,none⟩)],.int .u8 (x.1.1:Int),.bool x.1.2,undef,undef,undef,undef,undef,undef,undef,undef],defers:=[] }) ?assign ?body ?done ?stop
 case assign =>
  intro l x W K hK
  gi_wp2
  exact hK
 case body =>
  rintro l pre ⟨⟨a,t⟩,ha⟩ W ⟨⟨v,hv,hrow,_⟩,hB⟩ hlt
  have hc:=hv.cell
  cases t
  ·have hb:bv (sevB ⟨(a,false),ha⟩)=.int .u8 (a:Int):=by
    simp only [sevB,bv,UInt8.toNat_ofNat',Bool.false_eq_true,if_false]
    rw [Nat.mod_eq_of_lt (by omega)]
   have HB:=hid hb
   clear hb
   gi_wp2_with (gi_at_builtin;refine wpListIn_append_own _ rfl _ _ 22 rfl w.heap.size 5 i0 (.int .u8 0) 1 1 Tryz.underlying22 hi hz0 hz1 hz2 rfl (by decide) _ _ _ rfl (hrow.alloc _) ⟨W.heap.size,0,none⟩ 1 1 [.int .u8 (a:Int)] rfl rfl (cell_one_new _ _ _) (by simp [Value.oneCell']) (by simp only [maxLen];omega) (by omega) (by have:=hB.size;simp;omega) ?_;intro v' w1 hown' hgrow _;obtain ⟨g',cap',rfl⟩:=ownsRow_succ hown';obtain ⟨hv1,hv2,hr2,hk2,hb2⟩:=hv.appended (by decide) hrow hB.size (by omega) hown' hgrow;have hc1:=hv1.cell;have hf1:=hv1.frozen)
   exact ⟨hk2.from _,hb2,⟨_,hv2,by simpa [sevBs,HB.out] using hr2,trivial⟩,hB.trans hb2⟩
  ·have hb:bv (sevB ⟨(a,true),ha⟩)=.int .u8 ((a:Int)+128):=by
    simp only [sevB,bv,UInt8.toNat_ofNat',if_true]
    rw [Nat.mod_eq_of_lt (by omega)]
    congr 1
   have HB:=hid hb
   clear hb
   gi_wp2_with (gi_at_builtin;refine wpListIn_append_own _ rfl _ _ 22 rfl w.heap.size 5 i0 (.int .u8 0) 1 1 Tryz.underlying22 hi hz0 hz1 hz2 rfl (by decide) _ _ _ rfl (hrow.alloc _) ⟨W.heap.size,0,none⟩ 1 1 [.int .u8 ((a:Int)+128)] rfl rfl (cell_one_new _ _ _) (by simp [Value.oneCell']) (by simp only [maxLen];omega) (by omega) (by have:=hB.size;simp;omega) ?_;intro v' w1 hown' hgrow _;obtain ⟨g',cap',rfl⟩:=ownsRow_succ hown';obtain ⟨hv1,hv2,hr2,hk2,hb2⟩:=hv.appended (by decide) hrow hB.size (by omega) hown' hgrow;have hc1:=hv1.cell;have hf1:=hv1.frozen)
   exact ⟨hk2.from _,hb2,⟨_,hv2,by simpa [sevBs,HB.out] using hr2,trivial⟩,hB.trans hb2⟩
 case done =>
  rintro D ys W hD rfl ⟨⟨v,hv,hrow,_⟩,hB⟩ hK
  have hc:=hv.cell
  gi_wp2
  refine ⟨by simp,.inl ⟨_,_,rfl,run_takeDeferred hK,?_⟩⟩
  exact ⟨_,results_tmp rfl _ _ _,v,rfl,by simpa [putN,sevBs,Function.comp_def] using ownsRow_putObj hrow _ hK rfl,hB.trans (belowK_b (w:=w) (Nat.le_refl _) W D _ _ (by simp at hD;omega) hK rfl rfl)⟩
 case stop =>
  rintro D c pre W _ _ h _
  exact h.elim
theorem put_any (n:Nat) (hn64:n<=18446744073709551615) (w:World) :
  Calls Tryz.prog 113 #[.int .u64 (n:Int)] w fun e W'=>∃ v,e=.returned v/\W'.ownsRow w.heap.size 5 1 v (putN n).length ((putN n).map bv)/\Below w.heap.size w W' :=
 (callsIn_wide (n:=3)).1 (Put_in Fence.wide 3 trivial trivial trivial rfl (Nat.le_refl _) n hn64 w)
end Go.Proofs.YtpmfdlghckfgiaaGreat
namespace Go.Proofs.YtpmfdlghckfgiaaGreat
open Go.RowKit
def fixN:Nat->Nat->List UInt8
 | 0,_=>[]
 | k+1,n=>b8 (n % 256) :: fixN k (n / 256)
def unfixN:List UInt8->Nat
 | []=>0
 | x :: r=>x.toNat+256 * unfixN r
theorem length_fixN (k:Nat):∀ n,(fixN k n).length=k:=by induction k with | zero=>intro n;rfl | succ k ih=>intro n;simp [fixN,ih]
theorem unfixN_lt (l:List UInt8):unfixN l < 256 ^ l.length:=by
 induction l with
 | nil=>simp [unfixN]
 | cons x r ih=>have:=x.toNat_lt;simp only [unfixN,List.length_cons,Nat.pow_succ];omega
theorem unfixN_snoc (l:List UInt8) (x:UInt8):unfixN (l++[x])=unfixN l+x.toNat * 256 ^ l.length:=by
 induction l with
 | nil=>simp [unfixN]
 | cons y r ih=>simp only [List.cons_append,unfixN,ih,List.length_cons,Nat.pow_succ,Nat.mul_add];rw [Nat.mul_comm (256 ^ r.length) 256,Nat.mul_left_comm x.toNat 256];omega
theorem unfixN_take {bs:List UInt8} {k:Nat} (h:k < bs.length):unfixN (bs.take (k+1))=unfixN (bs.take k)+bs[k].toNat * 256 ^ k:=by
 rw [List.take_succ_eq_append_getElem h,unfixN_snoc,List.length_take,Nat.min_eq_left (by omega)]
theorem unfixN_take_lt (bs:List UInt8) (k:Nat) (h:k<=bs.length):unfixN (bs.take k) < 256 ^ k:=by
 have:=unfixN_lt (bs.take k)
 rwa [List.length_take,Nat.min_eq_left h] at this
theorem pow256 {k:Nat} (h:k<=8):(256:Nat) ^ k<=18446744073709551616:=by
 have:(256:Nat) ^ k<=256 ^ 8:=Nat.pow_le_pow_right (by omega) h
 omega
theorem number_wrap {bs:List UInt8} {k:Nat} (h:k < bs.length) (hk:k < 8) :
  IntKind.u64.wrap ((unfixN (bs.take k):Int)+IntKind.u64.wrap ((bs[k].toNat:Int) * 2 ^ (8 * k)))=(unfixN (bs.take (k+1)):Int):=by
 have h1:=unfixN_take h
 have h2:=unfixN_take_lt bs (k+1) (by omega)
 have h3:=pow256 (k:=k+1) (by omega)
 have e:(bs[k].toNat:Int) * 2 ^ (8 * k)=((bs[k].toNat * 256 ^ k:Nat):Int):=by rw [show (256:Nat) ^ k=2 ^ (8 * k) from by rw [Nat.pow_mul]];simp
 rw [e]
 generalize bs[k].toNat * 256 ^ k=z at *
 rw [IntWalk.u64_in (z:Int) (by omega),IntWalk.u64_in _ (by omega)]
 omega
theorem number_any (bs:List UInt8) (A:Option Addr) (c k:Nat) (w:World) (hk1:1<=k) (hk:k<=8) (hR:Sl w A c (bs.map bv)) :
  Calls Tryz.prog 138 #[.slice A bs.length c,.int .i64 (k:Int)] w fun e w'=>e=.returned (.tuple #[.int .u64 (if bs.length < k then 0 else unfixN (bs.take k)),.int .i64 (if bs.length < k then 4 else 0)])/\w=w':=by
 have hc:=hR.cap
 have hs:=hR.small
 simp only [List.length_map] at hc
 by_cases hlt:bs.length < k
 ·go_enter Tryz.func138,Tryz.ntmps138
  go_wp2
  go_ret2
  exact ⟨by simp,rfl⟩
 ·have hle:k<=bs.length:=by omega
  obtain ⟨b,off,rfl,hb,_⟩:=BRd.at_ hR.rd (k:=0) (by omega)
  go_enter Tryz.func138,Tryz.ntmps138
  go_wp2
  go_loop [6,7,8,17] (fun n _ _ i=>∃ j:Nat,j<=k/\i=.int .i64 j/\n=.int .u64 (unfixN (bs.take j):Int)) (fun _ _ _ i=>k - (intOf i).toNat)
  case atStart=>exact ⟨0,by omega,rfl,by simp [unfixN]⟩
  case round =>
   obtain ⟨j,hj,rfl,rfl⟩:=hrel
   by_cases hjk:j < k
   ·have hn:=number_wrap (bs:=bs) (k:=j) (by omega) (by omega)
    obtain ⟨b',off',he,hb',hcell⟩:=BRd.at_ hR.rd (k:=j) (by omega)
    injection he with he
    injection he with he1 he2
    subst he1
    subst he2
    have hx:=(bs[j]'(by omega)).toNat_lt
    generalize (bs[j]'(by omega)).toNat=y at *
    have HN:=hid hn
    clear hn
    go_wp2
    go_round
    case rel=>exact ⟨j+1,by omega,by go_num,by rw [<-HN.out]⟩
    case measure=>simp [intOf] <;> omega
   ·obtain rfl:j=k:=by omega
    go_wp2
    go_ret2
    exact ⟨by simp,rfl⟩
theorem get32_any (bs:List UInt8) (A:Option Addr) (c:Nat) (w:World) (hR:Sl w A c (bs.map bv)) :
  Calls Tryz.prog 135 #[.slice A bs.length c] w fun e w'=>e=.returned (.tuple #[.int .u32 (if bs.length < 4 then 0 else unfixN (bs.take 4)),.int .i64 (if bs.length < 4 then 4 else 0)])/\w=w':=by
 have hv:0<=(if bs.length < 4 then 0 else (unfixN (bs.take 4):Int))/\(if bs.length < 4 then 0 else (unfixN (bs.take 4):Int))<=4294967295:=by
  split
  ·omega
  ·have:=unfixN_take_lt bs 4 (by omega);omega
 have hc:Calls Tryz.prog 138 #[.slice A bs.length c,.int .i64 4] w _:=number_any bs A c 4 w (by omega) (by omega) hR
 generalize (if bs.length < 4 then 0 else (unfixN (bs.take 4):Int))=v at *
 generalize (if bs.length < 4 then (4:Int) else 0)=u at *
 have HC:=hid hc
 clear hc
 go_enter Tryz.func135,Tryz.ntmps135
 go_wp2_with (go_at_call 138;refine HC.out.mono ?_;rintro e w' ⟨rfl,rfl⟩)
 go_ret2
 exact ⟨rfl,rfl⟩
theorem get64_any (bs:List UInt8) (A:Option Addr) (c:Nat) (w:World) (hR:Sl w A c (bs.map bv)) :
  Calls Tryz.prog 133 #[.slice A bs.length c] w fun e w'=>e=.returned (.tuple #[.int .u64 (if bs.length < 8 then 0 else unfixN (bs.take 8)),.int .i64 (if bs.length < 8 then 4 else 0)])/\w=w':=by
 have hc:Calls Tryz.prog 138 #[.slice A bs.length c,.int .i64 8] w _:=number_any bs A c 8 w (by omega) (by omega) hR
 generalize (if bs.length < 8 then 0 else (unfixN (bs.take 8):Int))=v at *
 generalize (if bs.length < 8 then (4:Int) else 0)=u at *
 have HC:=hid hc
 clear hc
 go_enter Tryz.func133,Tryz.ntmps133
 go_wp2_with (go_at_call 138;refine HC.out.mono ?_;rintro e w' ⟨rfl,rfl⟩)
 go_ret2
 exact ⟨rfl,rfl⟩
theorem unfixN_drop {bs:List UInt8} {k j:Nat} (h:j < k) (hk:k<=bs.length):unfixN ((bs.take k).drop j)=(bs[j]'(by omega)).toNat+256 * unfixN ((bs.take k).drop (j+1)):=by
 rw [List.drop_eq_getElem_cons (by rw [List.length_take];omega),unfixN]
 simp
theorem unfixN_drop_lt (bs:List UInt8) (k j:Nat) (hk:k<=bs.length):unfixN ((bs.take k).drop j) < 256 ^ (k - j):=by
 have:=unfixN_lt ((bs.take k).drop j)
 rwa [List.length_drop,List.length_take,Nat.min_eq_left hk] at this
theorem unfix_any (bs:List UInt8) (A:Option Addr) (c k:Nat) (w:World) (hk1:1<=k) (hk:k<=8) (hle:k<=bs.length) (hl:bs.length<=9223372036854775807) (hR:BRd w A bs) :
  Calls Tryz.prog 87 #[.slice A bs.length c,.int .i64 (k:Int)] w fun e w'=>e=.returned (.int .u64 (unfixN (bs.take k)))/\w=w':=by
 go_enter Tryz.func87,Tryz.ntmps87
 go_wp2
 go_loop [5,6] (fun n i=>∃ j:Nat,j<=k/\i=.int .i64 ((j:Int) - 1)/\n=.int .u64 (unfixN ((bs.take k).drop j):Int)) (fun _ i=>(intOf i+1).toNat)
 case atStart=>exact ⟨k,by omega,rfl,by rw [List.drop_eq_nil_of_le (by rw [List.length_take];omega)];rfl⟩
 case round =>
  obtain ⟨j,hj,rfl,rfl⟩:=hrel
  by_cases h0:0 < j
  ·obtain ⟨i,rfl⟩:∃ i,j=i+1:=⟨j - 1,by omega⟩
   have hn:=unfixN_drop (bs:=bs) (k:=k) (j:=i) (by omega) hle
   have hlt:=unfixN_drop_lt bs k i hle
   have hp:=pow256 (k:=k - i) (by omega)
   obtain ⟨b',off',rfl,hb',hcell⟩:=hR.at_ (k:=i) (by omega)
   rw [show (((i+1:Nat):Int) - 1)=(i:Int) from by omega]
   have hx:=(bs[i]'(by omega)).toNat_lt
   generalize (bs[i]'(by omega)).toNat=y at *
   generalize unfixN ((bs.take k).drop (i+1))=z at *
   have hz:(0:Int)<=z * 256/\(z:Int) * 256<=18446744073709551615/\(z:Int) * 256+y<=18446744073709551615:=by omega
   have HN:=hid hn
   clear hn hlt hp
   go_wp2
   go_round
   case rel=>exact ⟨i,by omega,by go_num,by rw [HN.out];go_num⟩
   case measure=>simp [intOf]
  ·obtain rfl:j=0:=by omega
   go_wp2
   go_ret
   exact ⟨by simp,rfl⟩
end Go.Proofs.YtpmfdlghckfgiaaGreat
namespace Go.Proofs.YtpmfdlghckfgiaaGreat
open Go.RowKit
theorem putN_small {n:Nat} (h:n < 128):putN n=[b8 n]:=by simp [putN,sevs,h,sevB,b8]
theorem putN_big {n:Nat} (h:¬ n < 128):putN n=b8 (n % 128+128) :: putN (n / 128):=by
 rw [putN,sevs,dif_neg h];simp [sevB,putN,b8]
theorem putN_length (k:Nat) (n:Nat) (h:n < 128 ^ (k+1)):(putN n).length<=k+1:=by simpa [putN] using sevs_length k n h
theorem putN_length10 {n:Nat} (h:n<=18446744073709551615):(putN n).length<=10:=putN_length 9 n (by omega)
theorem rput_own (n:Nat) (w:World) (h64:n<=18446744073709551615) :
  Calls Tryz.prog 62 #[.int .u64 (n:Int)] w fun e W'=>∃ v,e=.returned v/\W'.ownsRow w.heap.size 5 1 v (putN n).length ((putN n).map bv)/\Below w.heap.size w W':=by
 obtain ⟨i0,hi,hz0,hz1,hz2⟩:=info_parts Tryz.info5
 have hlen:=putN_length10 h64
 go_enter Tryz.func62,Tryz.ntmps62
 go_wp2
 go_loopw [0,3] (fun n' v wr=>∃ (m:Nat) (pre:List UInt8),m<=n/\n'=.int .u64 (m:Int)/\putN n=pre++putN m/\wr.ownsRow w.heap.size 5 1 v pre.length (pre.map bv)/\Below w.heap.size w wr) (fun n' _ _=>(intOf n').toNat)
 case atStart=>exact ⟨n,[],by omega,rfl,rfl,World.ownsRow_nil _ _ _ _,Below.refl _ _⟩
 case round =>
  obtain ⟨m,pre,hm,rfl,hpre,hrow,hB⟩:=hrel
  have hpl:pre.length<=10:=by have:=congrArg List.length hpre;simp at this;omega
  have HP:=hid hpre
  clear hpre
  by_cases hlt:m < 128
  ·have hb:=bv_b8 m (by omega)
   have HB:=hid hb
   clear hb
   go_wp2_with (at_builtin;refine wpList_append_own _ rfl _ _ 22 rfl w.heap.size 5 i0 (.int .u8 0) 1 1 Tryz.underlying22 hi hz0 hz1 hz2 rfl (by decide) _ _ _ rfl (hrow.alloc _) ⟨wr.heap.size,0,none⟩ 1 1 [.int .u8 (m:Int)] rfl rfl (cell_one_new _ _ _) (by simp [Value.oneCell']) (by simp only [maxLen];omega) (by omega) (by have:=hB.size;simp;omega) ?_;intro v' w1 hown' hgrow _)
   go_ret
   have hpn:=putN_small hlt
   have hg:Below w.heap.size w w1:=(hB.alloc hB.size _).grown hgrow (by have:=hB.size;simp;omega) fun k ek=>(hrow.lt k ek).1
   exact ⟨_,rfl,by rw [HP.out,hpn];simpa [HB.out] using hown',hg⟩
  ·have hb:=bv_b8 (m % 128+128) (by omega)
   rw [show ((m % 128+128:Nat):Int)=(m:Int) % 128+128 from by omega] at hb
   have HB:=hid hb
   clear hb
   go_wp2_with (at_builtin;refine wpList_append_own _ rfl _ _ 22 rfl w.heap.size 5 i0 (.int .u8 0) 1 1 Tryz.underlying22 hi hz0 hz1 hz2 rfl (by decide) _ _ _ rfl (hrow.alloc _) ⟨wr.heap.size,0,none⟩ 1 1 [.int .u8 ((m:Int) % 128+128)] rfl rfl (cell_one_new _ _ _) (by simp [Value.oneCell']) (by simp only [maxLen];omega) (by omega) (by have:=hB.size;simp;omega) ?_;intro v' w1 hown' hgrow _)
   have hpn:=putN_big hlt
   have hg:Below w.heap.size w w1:=(hB.alloc hB.size _).grown hgrow (by have:=hB.size;simp;omega) fun k ek=>(hrow.lt k ek).1
   go_roundw
   case rel=>exact ⟨m / 128,pre++[b8 (m % 128+128)],by omega,by go_num,by rw [HP.out,hpn];simp,by simpa [HB.out] using hown',hg⟩
   case measure=>simp [intOf] <;> omega
theorem rfix_own (n k:Nat) (w:World) (h64:n<=18446744073709551615) (hk:k<=1000) :
  Calls Tryz.prog 63 #[.int .u64 (n:Int),.int .i64 (k:Int)] w fun e W'=>∃ v,e=.returned v/\W'.ownsRow w.heap.size 5 1 v (fixN k n).length ((fixN k n).map bv)/\Below w.heap.size w W':=by
 obtain ⟨i0,hi,hz0,hz1,hz2⟩:=info_parts Tryz.info5
 go_enter Tryz.func63,Tryz.ntmps63
 go_wp2
 go_loopw [0,5,6] (fun n' v i wr=>∃ (m j:Nat) (pre:List UInt8),m<=n/\j<=k/\i=.int .i64 (j:Int)/\n'=.int .u64 (m:Int)/\fixN k n=pre++fixN (k - j) m/\wr.ownsRow w.heap.size 5 1 v pre.length (pre.map bv)/\Below w.heap.size w wr) (fun _ _ i _=>k - (intOf i).toNat)
 case atStart=>exact ⟨n,0,[],by omega,by omega,rfl,rfl,rfl,World.ownsRow_nil _ _ _ _,Below.refl _ _⟩
 case round =>
  obtain ⟨m,j,pre,hm,hj,rfl,rfl,hpre,hrow,hB⟩:=hrel
  have hpl:pre.length<=1000:=by have:=congrArg List.length hpre;simp [length_fixN] at this;omega
  have HP:=hid hpre
  clear hpre
  by_cases hlt:j < k
  ·have hb:=bv_b8 (m % 256) (by omega)
   rw [show ((m % 256:Nat):Int)=(m:Int) % 256 from by omega] at hb
   have HB:=hid hb
   clear hb
   go_wp2_with (at_builtin;refine wpList_append_own _ rfl _ _ 22 rfl w.heap.size 5 i0 (.int .u8 0) 1 1 Tryz.underlying22 hi hz0 hz1 hz2 rfl (by decide) _ _ _ rfl (hrow.alloc _) ⟨wr.heap.size,0,none⟩ 1 1 [.int .u8 ((m:Int) % 256)] rfl rfl (cell_one_new _ _ _) (by simp [Value.oneCell']) (by simp only [maxLen];omega) (by omega) (by have:=hB.size;simp;omega) ?_;intro v' w1 hown' hgrow _)
   have hpn:fixN (k - j) m=b8 (m % 256) :: fixN (k - (j+1)) (m / 256):=by rw [show k - j=(k - (j+1))+1 from by omega,fixN]
   have hg:Below w.heap.size w w1:=(hB.alloc hB.size _).grown hgrow (by have:=hB.size;simp;omega) fun k ek=>(hrow.lt k ek).1
   go_roundw
   case rel=>exact ⟨m / 256,j+1,pre++[b8 (m % 256)],by omega,by omega,by go_num,by go_num,by rw [HP.out,hpn];simp,by simpa [HB.out] using hown',hg⟩
   case measure=>simp [intOf] <;> omega
  ·obtain rfl:j=k:=by omega
   go_wp2
   go_ret
   exact ⟨_,rfl,by rw [HP.out,Nat.sub_self];simpa [fixN] using hrow,hB⟩
theorem rput_any (n:Nat) (w:World) (h64:n<=18446744073709551615) :
  Calls Tryz.prog 62 #[.int .u64 (n:Int)] w fun e W'=>∃ A c,e=.returned (.slice A (putN n).length c)/\Sl W' A c ((putN n).map bv)/\Below w.heap.size w W' :=
 (rput_own n w h64).mono fun _ _ ⟨_,he,ho,hb⟩=>let ⟨A,c,hv,_,hs⟩:=Sl.of_own ho;⟨A,c,by rw [he,hv],hs,hb⟩
theorem vput_any (n:Nat) (w:World) (h64:n<=18446744073709551615) :
  Calls Tryz.prog 113 #[.int .u64 (n:Int)] w fun e W'=>∃ A c,e=.returned (.slice A (putN n).length c)/\Sl W' A c ((putN n).map bv)/\Below w.heap.size w W' :=
 (put_any n h64 w).mono fun _ _ ⟨_,he,ho,hb⟩=>let ⟨A,c,hv,_,hs⟩:=Sl.of_own ho;⟨A,c,by rw [he,hv],hs,hb⟩
theorem rfix_any (n k:Nat) (w:World) (h64:n<=18446744073709551615) (hk:k<=1000) :
  Calls Tryz.prog 63 #[.int .u64 (n:Int),.int .i64 (k:Int)] w fun e W'=>∃ A c,e=.returned (.slice A (fixN k n).length c)/\Sl W' A c ((fixN k n).map bv)/\Below w.heap.size w W' :=
 (rfix_own n k w h64 hk).mono fun _ _ ⟨_,he,ho,hb⟩=>let ⟨A,c,hv,_,hs⟩:=Sl.of_own ho;⟨A,c,by rw [he,hv],hs,hb⟩
end Go.Proofs.YtpmfdlghckfgiaaGreat
namespace Go.Proofs.YtpmfdlghckfgiaaGreat
open Go.RowKit Go.Shelf
attribute [local go_sem] Oper.semAt_some
abbrev Byt:Type:={ p:Nat // p < 256 }
abbrev bytEnc (x:Byt):Array Value:=#[.int .u8 (x.1:Int)]
def lows (n k:Nat):List Byt:=(List.range k).map fun i=>⟨n / 2 ^ (8 * i) % 256,by omega⟩
theorem lows_succ (n k:Nat):lows n (k+1)=lows n k++[⟨n / 2 ^ (8 * k) % 256,by omega⟩]:=by simp [lows,List.range_succ]
theorem lows_pre (n:Nat) {j k:Nat} (h:j<=k):lows n j <+: lows n k:=by
 obtain ⟨d,rfl⟩:∃ d,k=j+d:=⟨k - j,by omega⟩
 clear h
 induction d with
 | zero=>exact List.prefix_rfl
 | succ d ih=>rw [<-Nat.add_assoc,lows_succ];exact ih.trans (List.prefix_append _ _)
theorem lows_length (n k:Nat):(lows n k).length=k:=by simp [lows]
theorem lows_fix (n k:Nat):(lows n k).map (fun x=>b8 x.1)=fixN k n:=by
 induction k generalizing n with
 | zero=>rfl
 | succ k ih =>
  rw [fixN,<-ih (n / 256)]
  simp only [lows,List.range_succ_eq_map,List.map_cons,List.map_map]
  congr 1
  ·simp
  ·apply List.map_congr_left
   intro i _
   simp only [Function.comp]
   rw [show 8 * (i+1)=8+8 * i from by omega,Nat.pow_add,<-Nat.div_div_eq_div_mul]
theorem lowest_in (F:Fence) (m:Nat) (hf:F.fn 137) (hro:F.round=none) (n k:Int) (w:World) :
  CallsIn F m Tryz.prog 137 #[.int .u64 n,.int .i64 k] w fun e w'=>e=.returned (.func (.func 139) #[] #[.pointer (some ⟨w.heap.size+1,0,none⟩),.pointer (some ⟨w.heap.size,0,none⟩)])/\w'=(w.alloc (.cells #[.int .u64 n] 24)).alloc (.cells #[.int .i64 k] 3):=by
 refine callsIn_of_wp Tryz.func137 rfl hf ?_ hro
 simp only [Tryz.ntmps137,List.size_toArray,List.length_cons,List.length_nil,Nat.reduceAdd,Nat.reduceSub,Array.replicate_succ,Array.replicate_zero,List.push_toArray,List.append_toArray,List.nil_append,List.cons_append]
 gi_wp2
 go_ret
 exact ⟨rfl,rfl⟩
def KB (B:Nat) (o:Obj) (A A':World):Prop:=A.heap[B]? = some o->A'.heap[B]? = some o
theorem KB.t {B:Nat} {o:Obj} {A A' A'':World} (h:KB B o A A') (h':KB B o A' A''):KB B o A A'':=fun hA=>h' (h hA)
theorem KB.b {B N:Nat} {o:Obj} (hB:B < N) (W:World) (l:Nat) (p p':Obj) (hl:N<=l) (_:W.heap[l]? = some p) (_:p.isCells=false) (_:p.isWalk=false):KB B o W (W.putObj l p') :=
 fun hA=>(World.putObj_heap_other (by omega)).trans hA
theorem lowest1_in (F:Fence) (m:Nat) (hf:F.fn 139) (hro:F.round=none) (hm:1<=m) (l B1 B2:Nat) (n k:Nat) (hn64:n<=18446744073709551615) (hk:k<=8) (J Jx:List Byt->World->Prop)
  (hY:∀ pre x W,J pre W->pre.length < (lows n k).length->YieldAt F (m - 1) Tryz.prog l (bytEnc x) W fun e W' =>
   (e=.returned (.bool true)/\J (pre++[x]) W'/\KB B2 (.cells #[.int .u64 (n:Int)] 24 (0,0)) W W')\/(e=.returned (.bool false)/\Jx (pre++[x]) W'))
  (W:World) (hB1c:W.cell? ⟨B1,0,none⟩=some (.int .i64 (k:Int))) (hB2c:Boxed W B2 24 (.int .u64 (n:Int))) (h0:J [] W) :
  CallsIn F m Tryz.prog 139 #[.func (.yield l) #[] #[],.pointer (some ⟨B1,0,none⟩),.pointer (some ⟨B2,0,none⟩)] W fun e W'=>(∃ v,e=.returned v) /\
   ((∃ ys,ys=lows n k/\J ys W')\/(∃ pre,pre <+: lows n k/\Jx pre W')):=by
 refine callsIn_of_wp Tryz.func139 rfl hf ?_ hro
 simp only [Tryz.ntmps139,List.size_toArray,List.length_cons,List.length_nil,Nat.reduceAdd,Nat.reduceSub,Array.replicate_succ,Array.replicate_zero,List.push_toArray,List.append_toArray,List.nil_append,List.cons_append]
 gi_wp2
 gi_loopw [4,6] (fun _ p wr=>∃ (j:Nat),p=.int .i64 (j:Int)/\j<=k/\J (lows n j) wr/\Boxed wr B2 24 (.int .u64 (n:Int)))
  (fun _ p _=>k - (intOf p).toNat)
 case atStart =>
  exact ⟨0,rfl,by omega,h0,hB2c⟩
 case round =>
  obtain ⟨j,rfl,hj,hJs,hbx⟩:=hrel
  have hc2:=hbx.cell
  by_cases hlt:j < k
  ·obtain ⟨fn,tmps,assign,body,hy,hR⟩:=hY (lows n j) ⟨n / 2 ^ (8 * j) % 256,by omega⟩ wr hJs (by rw [lows_length,lows_length];omega)
   dsimp only [bytEnc] at hy
   rw [show ((n / 2 ^ (8 * j) % 256:Nat):Int)=(n:Int) / 2 ^ (8 * j) % 256 from by simp] at hy
   gi_wp2
   refine hR.mono ?_
   rintro e W3 (⟨rfl,hJ3,hk3⟩ | ⟨rfl,hJx3⟩)
   ·gi_wp2
    go_roundw
    case rel=>exact ⟨j+1,by go_num,by omega,by rw [lows_succ];exact hJ3,hk3 hbx⟩
    case measure=>simp [intOf] <;> omega
   ·gi_wp2
    refine bodyPost_ret (results_none rfl _ _ _) rfl ?_
    exact ⟨⟨_,rfl⟩,.inr ⟨_,by rw [<-lows_succ];exact lows_pre n (by omega),hJx3⟩⟩
  ·obtain rfl:j=k:=by omega
   gi_wp2
   go_end0
   exact ⟨⟨_,rfl⟩,.inl ⟨_,rfl,hJs⟩⟩
theorem lowest_stops (F:Fence) (m:Nat) (hf:F.fn 139) (hro:F.round=none) (hm:1<=m) (B1 B2:Nat) (n k:Nat) (hn64:n<=18446744073709551615) (hk:k<=8) (w:World)
  (h1:Boxed w B1 3 (.int .i64 (k:Int))) (h2:Boxed w B2 24 (.int .u64 (n:Int))) :
  SeqStopsK F m Tryz.prog 139 #[.pointer (some ⟨B1,0,none⟩),.pointer (some ⟨B2,0,none⟩)] bytEnc (KB B2 (.cells #[.int .u64 (n:Int)] 24 (0,0))) (fun ys=>ys=lows n k) (fun pre=>pre <+: lows n k) (lows n k).length w:=fun l J Jx W hW _ _ hY h0 =>
 lowest1_in F m hf hro hm l B1 B2 n k hn64 hk J Jx hY W ((hW.cell (p:=⟨B1,0,none⟩) h1.lt).trans h1.cell) ((hW.block B2 h2.lt).trans h2) h0
def bytBs (xs:List Byt):List Value:=xs.map fun x=>bv (b8 x.1)
theorem fixed_in (F:Fence) (m:Nat) (hf1:F.fn 129) (hf2:F.fn 137) (hf3:F.fn 139) (hro:F.round=none) (hm:3<=m) (n k:Nat) (hn64:n<=18446744073709551615) (hk:k<=8) (w:World) :
  CallsIn F m Tryz.prog 129 #[.int .u64 (n:Int),.int .i64 (k:Int)] w fun e W'=>∃ v,e=.returned v/\W'.ownsRow w.heap.size 5 1 v (fixN k n).length ((fixN k n).map bv)/\Below w.heap.size w W':=by
 have h1:1<=m:=by omega
 obtain ⟨i0,hi,hz0,hz1,hz2⟩:=info_parts Tryz.info5
 have hmk:∀ u:World,(Instr.makeSlice 22 (.int .i64 0) (.int .i64 (k:Int))).run Tryz.prog u=.ok (.slice (some ⟨u.heap.size,0,none⟩) 0 k) (u.alloc (.cells (madeCells #[.int .u8 0] k) 5)):=fun u=>by
  have h:=run_make (P:=Tryz.prog) u 22 5 i0 (.int .u8 0) Tryz.underlying22 hi hz0 .i64 .i64 0 (k:Int) (by omega) (by omega) (by rw [hz2];omega) (by omega)
  simpa [hz1,Value.cells] using h
 refine callsIn_of_wp_marks Tryz.func129 rfl hf1 ?_ hro
 simp only [Tryz.ntmps129,List.size_toArray,List.length_cons,List.length_nil,Nat.reduceAdd,Nat.reduceSub,Array.replicate_succ,Array.replicate_zero,List.push_toArray,List.append_toArray,List.nil_append,List.cons_append]
 gi_wp2_with (gi_at_call 137;refine (lowest_in F (m - 1) hf2 hro _ _ _).mono ?_;rintro e w' ⟨rfl,rfl⟩)
 generalize hW0:(w.alloc _)=Wa
 have bO:=Boxed.new Wa 22 (.slice (some ⟨w.heap.size,0,none⟩) 0 k)
 have bN:=Boxed.new (Wa.alloc (.cells #[.slice (some ⟨w.heap.size,0,none⟩) 0 k] 22)) 24 (.int .u64 (n:Int))
 have bK:=Boxed.new ((Wa.alloc (.cells #[.slice (some ⟨w.heap.size,0,none⟩) 0 k] 22)).alloc (.cells #[.int .u64 (n:Int)] 24)) 3 (.int .i64 (k:Int))
 have hz:Wa.heap.size=w.heap.size+1:=by rw [<-hW0];simp
 rw [World.size_alloc,World.size_alloc,hz] at bK
 rw [World.size_alloc,hz] at bN
 rw [hz] at bO
 have hrow:Wa.ownsRow w.heap.size 5 1 (.slice (some ⟨w.heap.size,0,none⟩) 0 k) 0 []:=by
  rw [<-hW0];exact World.ownsRow_made _ _ _ (Nat.le_refl _) (by simp only [maxLen];omega) (by rw [size_madeCells];omega)
 have hBa:Below w.heap.size w Wa:=by rw [<-hW0];exact (Below.refl _ w).alloc (Nat.le_refl _) _
 have hB0:=((hBa.alloc hBa.size (.cells #[.slice (some ⟨w.heap.size,0,none⟩) 0 k] 22)).alloc (by simp;omega) (.cells #[.int .u64 (n:Int)] 24)).alloc (by simp;omega) (.cells #[.int .i64 (k:Int)] 3)
 clear hW0
 refine wpIn_rangeFunc_ownG hro h1 (gf:=139) (lb:=#[.pointer (some ⟨w.heap.size+1+1+1,0,none⟩),.pointer (some ⟨w.heap.size+1+1,0,none⟩)]) rfl hf3 (enters_of Tryz.func139 (by kernel_rfl) rfl)
  (lowest_stops F (m - 1) hf3 hro (by omega) (w.heap.size+1+1+1) (w.heap.size+1+1) n k hn64 hk _ bK (bN.alloc _)) KB.t (KB.b (by simp;omega)) (Below.refl _ _) (fun _=>rfl)
  (fun pre W=>(∃ v,Boxed W (w.heap.size+1) 22 v/\W.ownsRow w.heap.size 5 1 v pre.length (bytBs pre)/\True)/\Below w.heap.size w W)
  (fun _ _ _=>False)
  (OwnFrom.and (Own.from (holdsRow_own w.heap.size (w.heap.size+1) 22 5 1 (fun pre=>pre.length) bytBs (fun _ _=>True)) _) (ownFrom_below (Nat.le_refl _) (by simp;omega)))
  (fun _ _ _ _ _ hs _ _=>hs)
  ⟨⟨_,(bO.alloc _).alloc _,((hrow.alloc _).alloc _).alloc _,trivial⟩,hB0⟩
  (fun x=>{ tmps:=#[.int .u64 (n:Int),.int .i64 (k:Int),undef,undef,.slice none 0 0,.pointer (some ⟨w.heap.size+1,0,none⟩),.int .u8 (x.1:Int),.int .i64 (k:Int),.slice (some ⟨w.heap.size,0,none⟩) 0 k,.int .u64 (n:Int),.int .i64 (k:Int),.func (.func 139) #[] #[.pointer (some ⟨w.heap.size+1+1+1,0,none⟩),.pointer (some ⟨w.heap.size+1+1,0,none⟩)],.int .u8 (x.1:Int),undef,undef,undef,undef,undef],defers:=[] }) ?assign ?body ?done ?stop
 case assign =>
  intro l x W K hK
  gi_wp2
  exact hK
 case body =>
  rintro l pre ⟨a,ha⟩ W ⟨⟨v,hv,hrow,_⟩,hB⟩ hlt
  have hc:=hv.cell
  rw [lows_length] at hlt
  have HB:=hid (bv_b8 a ha)
  gi_wp2_with (gi_at_builtin;refine wpListIn_append_own _ rfl _ _ 22 rfl w.heap.size 5 i0 (.int .u8 0) 1 1 Tryz.underlying22 hi hz0 hz1 hz2 rfl (by decide) _ _ _ rfl (hrow.alloc _) ⟨W.heap.size,0,none⟩ 1 1 [.int .u8 (a:Int)] rfl rfl (cell_one_new _ _ _) (by simp [Value.oneCell']) (by simp only [maxLen];omega) (by omega) (by have:=hB.size;simp;omega) ?_;intro v' w1 hown' hgrow _;obtain ⟨g',cap',rfl⟩:=ownsRow_succ hown';obtain ⟨hv1,hv2,hr2,hk2,hb2⟩:=hv.appended (by decide) hrow hB.size (by omega) hown' hgrow;have hc1:=hv1.cell;have hf1:=hv1.frozen)
  have hkb:KB (w.heap.size+1+1) (.cells #[.int .u64 (n:Int)] 24 (0,0)) W (w1.setCell ⟨w.heap.size+1,0,none⟩ (.slice (some ⟨g',0,none⟩) (pre.length+1) cap')):=fun hA =>
   Boxed.other (((show Boxed W _ _ _ from hA).alloc _).kept hgrow (Boxed.not_row hA (by decide) hrow)) (by omega) _
  have he:bytBs (pre++[⟨a,ha⟩])=bytBs pre++[.int .u8 (a:Int)]:=by simp only [bytBs,List.map_append,List.map_cons,List.map_nil,HB.out]
  exact ⟨hk2.from _,hkb,⟨_,hv2,by rw [he,List.length_append];exact hr2⟩,hB.trans hb2⟩
 case done =>
  rintro D xs W hD rfl ⟨⟨v,hv,hrow,_⟩,hB⟩ hK
  have hc:=hv.cell
  gi_wp2
  refine ⟨by simp,.inl ⟨_,_,rfl,run_takeDeferred hK,?_⟩⟩
  have hlf:=lows_fix n k
  have hl2:(fixN k n).map bv=bytBs (lows n k):=by rw [<-hlf,List.map_map];rfl
  exact ⟨_,results_tmp rfl _ _ _,v,rfl,by have h:=ownsRow_putObj hrow (.deferred none) hK rfl;rw [lows_length] at h;rw [hl2,length_fixN];exact h,hB.trans (belowK_b (w:=w) (Nat.le_refl _) W D _ _ (by simp at hD;omega) hK rfl rfl)⟩
 case stop =>
  rintro D c pre W _ _ h _
  exact h.elim
theorem fixed_any (n k:Nat) (hn64:n<=18446744073709551615) (hk:k<=8) (w:World) :
  Calls Tryz.prog 129 #[.int .u64 (n:Int),.int .i64 (k:Int)] w fun e W'=>∃ A c,e=.returned (.slice A (fixN k n).length c)/\Sl W' A c ((fixN k n).map bv)/\Below w.heap.size w W' :=
 ((callsIn_wide (n:=3)).1 (fixed_in Fence.wide 3 trivial trivial trivial rfl (Nat.le_refl _) n k hn64 hk w)).mono fun _ _ ⟨_,he,ho,hb⟩=>let ⟨A,c,hv,_,hs⟩:=Sl.of_own ho;⟨A,c,by rw [he,hv],hs,hb⟩
theorem fix32_any (n:Nat) (hn:n<=4294967295) (w:World) :
  Calls Tryz.prog 115 #[.int .u32 (n:Int)] w fun e W'=>∃ A c,e=.returned (.slice A 4 c)/\Sl W' A c ((fixN 4 n).map bv)/\Below w.heap.size w W':=by
 have hc:Calls Tryz.prog 129 #[.int .u64 (n:Int),.int .i64 4] w _:=fixed_any n 4 (by omega) (by omega) w
 rw [length_fixN] at hc
 have HC:=hid hc
 clear hc
 go_enter Tryz.func115,Tryz.ntmps115
 go_wp2_with (go_at_call 129;refine HC.out.mono ?_;rintro e w' ⟨A,c,rfl,hs,hb⟩)
 go_ret
 exact ⟨A,c,rfl,hs,hb⟩
theorem fix64_any (n:Nat) (hn:n<=18446744073709551615) (w:World) :
  Calls Tryz.prog 114 #[.int .u64 (n:Int)] w fun e W'=>∃ A c,e=.returned (.slice A 8 c)/\Sl W' A c ((fixN 8 n).map bv)/\Below w.heap.size w W':=by
 have hc:Calls Tryz.prog 129 #[.int .u64 (n:Int),.int .i64 8] w _:=fixed_any n 8 (by omega) (by omega) w
 rw [length_fixN] at hc
 have HC:=hid hc
 clear hc
 go_enter Tryz.func114,Tryz.ntmps114
 go_wp2_with (go_at_call 129;refine HC.out.mono ?_;rintro e w' ⟨A,c,rfl,hs,hb⟩)
 go_ret
 exact ⟨A,c,rfl,hs,hb⟩
end Go.Proofs.YtpmfdlghckfgiaaGreat
namespace Go.Proofs.YtpmfdlghckfgiaaGreat
open Go.RowKit
theorem same_any (xs ys:List UInt8) (A B:Option Addr) (c d:Nat) (w:World) (hl:xs.length<=9223372036854775807) (hA:BRd w A xs) (hB:BRd w B ys) :
  Calls Tryz.prog 12 #[.slice A xs.length c,.slice B ys.length d] w fun e w'=>e=.returned (.bool (decide (xs=ys)))/\∃ n,w'=w.drewN n:=by
 by_cases hne:xs.length=ys.length
 ·have hnb:((xs.length:Int) != (ys.length:Int))=false:=by simp [hne]
  have HNE:=hid hne
  clear hne
  go_enter Tryz.func12,Tryz.ntmps12
  go_wp2
  go_loopw [5] (fun i wr=>∃ k n:Nat,k<=xs.length/\i=.int .i64 k/\wr=w.drewN n/\xs.take k=ys.take k) (fun i _=>xs.length - (intOf i).toNat)
  case atStart=>exact ⟨0,0,by omega,rfl,rfl,by simp⟩
  case round =>
   obtain ⟨k,n,hk,rfl,rfl,ht⟩:=hrel
   have HT:=hid ht
   clear ht
   by_cases hlt:k < xs.length
   ·have hlt2:k < ys.length:=by have:=HNE.out;omega
    obtain ⟨b1,o1,rfl,hb1,hc1⟩:=hA.at_ hlt
    obtain ⟨b2,o2,rfl,hb2,hc2⟩:=hB.at_ hlt2
    by_cases hxy:xs[k]=ys[k]
    ·rw [hxy] at hc1
     generalize hy:(ys[k].toNat:Int)=y at hc1 hc2
     clear hy
     go_wp2
     go_quiet (fail)
     go_wp2
     go_roundw
     case rel=>exact ⟨k+1,_,by omega,by go_num,rfl,by rw [List.take_succ_eq_append_getElem hlt,List.take_succ_eq_append_getElem hlt2,HT.out,hxy]⟩
     case measure=>simp [intOf];omega
    ·have hne:((xs[k].toNat:Int) != (ys[k].toNat:Int))=true:=by
      rw [bne_iff_ne];intro h;exact hxy (UInt8.toNat_inj.1 (by omega))
     generalize (xs[k].toNat:Int)=x at *
     generalize (ys[k].toNat:Int)=y at *
     go_wp2
     go_quiet (fail)
     go_wp2
     go_ret
     exact ⟨ret_bool (by simp [ne_of_get hlt hlt2 hxy]),_,World.drewN_drewN ..⟩
   ·go_wp2
    go_ret
    exact ⟨ret_bool (by simp [eq_of_take HNE.out (by omega) HT.out]),_,rfl⟩
 ·have hnb:((xs.length:Int) != (ys.length:Int))=true:=by rw [bne_iff_ne];omega
  go_enter Tryz.func12,Tryz.ntmps12
  go_wp2
  go_ret
  exact ⟨ret_bool (by simp;rintro rfl;exact hne rfl),0,rfl⟩
end Go.Proofs.YtpmfdlghckfgiaaGreat
namespace Go.Proofs.YtpmfdlghckfgiaaGreat
open Go.RowKit
def zig (n:Int):Int:=if 0<=n then 2 * n else 2 * (-(n+1))+1
def zag (n:Int):Int:=if n % 2=0 then n / 2 else -(n / 2) - 1
theorem zig_range (n:Int) (h1 : -9223372036854775808<=n) (h2:n<=9223372036854775807):0<=zig n/\zig n<=18446744073709551615:=by unfold zig;split <;> omega
theorem zig_any (n:Int) (w:World) (h1 : -9223372036854775808<=n) (h2:n<=9223372036854775807) :
  Calls Tryz.prog 101 #[.int .i64 n] w fun e w'=>e=.returned (.int .u64 (zig n))/\w=w':=by
 go_enter Tryz.func101,Tryz.ntmps101
 go_wp2
 all_goals go_ret
 all_goals exact ⟨ret_int (by unfold zig;split <;> omega),rfl⟩
theorem rzig_any (n:Int) (w:World) (h1 : -9223372036854775808<=n) (h2:n<=9223372036854775807) :
  Calls Tryz.prog 43 #[.int .i64 n] w fun e w'=>e=.returned (.int .u64 (zig n))/\w=w':=by
 go_enter Tryz.func43,Tryz.ntmps43
 go_wp2
 all_goals go_ret
 all_goals exact ⟨ret_int (by unfold zig;split <;> omega),rfl⟩
theorem zag_any (n:Int) (w:World) (h1:0<=n) (h2:n<=18446744073709551615) :
  Calls Tryz.prog 98 #[.int .u64 n] w fun e w'=>e=.returned (.int .i64 (zag n))/\w=w':=by
 by_cases h:n % 2=0
 all_goals
  go_enter Tryz.func98,Tryz.ntmps98
  go_wp2
  all_goals go_ret
  all_goals exact ⟨ret_int (by unfold zag;split <;> omega),rfl⟩
def sizeN (n:Nat):Nat:=if n < 128 then 1 else 1+sizeN (n / 128)
 termination_by n
 decreasing_by omega
end Go.Proofs.YtpmfdlghckfgiaaGreat
namespace Go.Proofs.YtpmfdlghckfgiaaGreat
open Go.RowKit
def wireB (w:Int):Bool:=decide (w=0\/w=1\/w=2\/w=5)
def widthN (w:Int):Int:=if w=1 then 8 else if w=5 then 4 else 0
def mk (num wire:Int):Int × Int:=if num < 1\/536870911 < num then (0,1) else if wireB wire=false then (0,7) else (8 * num+wire,0)
def spl (n:Int):Int × Int × Int:=if n / 8 < 1\/536870911 < n / 8 then (0,0,1) else if wireB (n % 8)=false then (0,0,7) else (n / 8,n % 8,0)
theorem mk_bad {n x:Int} (h:1<=n) (h':n<=536870911) (hw:wireB x=false):mk n x=(0,7):=by unfold mk;rw [if_neg (by omega),if_pos hw]
theorem mk_ok {n x:Int} (h:1<=n) (h':n<=536870911) (hw:wireB x=true):mk n x=(8 * n+x,0):=by unfold mk;rw [if_neg (by omega),if_neg (by simp [hw])]
theorem spl_bad {n:Int} (h:1<=n / 8) (h':n / 8<=536870911) (hw:wireB (n % 8)=false):spl n=(0,0,7):=by unfold spl;rw [if_neg (by omega),if_pos hw]
theorem spl_ok {n:Int} (h:1<=n / 8) (h':n / 8<=536870911) (hw:wireB (n % 8)=true):spl n=(n / 8,n % 8,0):=by unfold spl;rw [if_neg (by omega),if_neg (by simp [hw])]
theorem width_any (x:Int) (w:World) (h1:0<=x) (h2:x<=255) :
  Calls Tryz.prog 127 #[.int .u8 x] w fun e w'=>e=.returned (.tuple #[.int .i64 (widthN x),.bool (wireB x)])/\w=w':=by
 by_cases a0:x=0
 ·subst a0
  go_enter Tryz.func127,Tryz.ntmps127
  go_wp2
  go_ret2
  exact ⟨by simp [widthN,wireB],rfl⟩
 by_cases a1:x=1
 ·subst a1
  go_enter Tryz.func127,Tryz.ntmps127
  go_wp2
  go_ret2
  exact ⟨by simp [widthN,wireB],rfl⟩
 by_cases a2:x=2
 ·subst a2
  go_enter Tryz.func127,Tryz.ntmps127
  go_wp2
  go_ret2
  exact ⟨by simp [widthN,wireB],rfl⟩
 by_cases a5:x=5
 ·subst a5
  go_enter Tryz.func127,Tryz.ntmps127
  go_wp2
  go_ret2
  exact ⟨by simp [widthN,wireB],rfl⟩
 ·have e0:(x == 0)=false:=by simpa using a0
  have e1:(x == 1)=false:=by simpa using a1
  have e2:(x == 2)=false:=by simpa using a2
  have e5:(x == 5)=false:=by simpa using a5
  go_enter Tryz.func127,Tryz.ntmps127
  go_wp2
  go_ret2
  exact ⟨by simp [widthN,wireB,a0,a1,a2,a5],rfl⟩
theorem wire_any (x:Int) (w:World) :
  Calls Tryz.prog 90 #[.int .u8 x] w fun e w'=>e=.returned (.bool (wireB x))/\w=w':=by
 by_cases a0:x=0
 ·subst a0
  go_enter Tryz.func90,Tryz.ntmps90
  go_wp2
  go_ret
  exact ⟨by simp [wireB],rfl⟩
 have e0:(x == 0)=false:=by simpa using a0
 by_cases a1:x=1
 ·subst a1
  go_enter Tryz.func90,Tryz.ntmps90
  go_wp2
  go_ret
  exact ⟨by simp [wireB],rfl⟩
 have e1:(x == 1)=false:=by simpa using a1
 by_cases a2:x=2
 ·subst a2
  go_enter Tryz.func90,Tryz.ntmps90
  go_wp2
  go_ret
  exact ⟨by simp [wireB],rfl⟩
 have e2:(x == 2)=false:=by simpa using a2
 go_enter Tryz.func90,Tryz.ntmps90
 go_wp2
 go_ret
 exact ⟨ret_bool (by simp [wireB,a0,a1,a2];by_cases h:x=5 <;> simp [h]),rfl⟩
theorem wireB_lt {x:Int} (h:wireB x=true):0<=x/\x<=5:=by simp [wireB] at h;omega
theorem make_any (n x:Int) (w:World) (h1:0<=x) (h2:x<=255) :
  Calls Tryz.prog 112 #[.int .i64 n,.int .u8 x] w fun e w'=>e=.returned (.tuple #[.int .u64 (mk n x).1,.int .i64 (mk n x).2])/\w=w':=by
 by_cases a:n < 1
 ·go_enter Tryz.func112,Tryz.ntmps112
  go_wp2
  go_ret2
  exact ⟨by simp [mk,a],rfl⟩
 by_cases b:536870911 < n
 ·go_enter Tryz.func112,Tryz.ntmps112
  go_wp2
  go_ret2
  exact ⟨by simp [mk,b],rfl⟩
 cases hw:wireB x
 all_goals
  go_enter Tryz.func112,Tryz.ntmps112
  go_wp2_with (go_at_call 127;refine (width_any _ _ h1 h2).mono ?_;rintro e w' ⟨rfl,rfl⟩)
  go_ret2
  first | rw [mk_bad (by omega) (by omega) hw] | rw [mk_ok (by omega) (by omega) hw]
  exact ⟨by simp;try omega,rfl⟩
theorem rmake_any (n x:Int) (w:World) (h1:0<=x) (h2:x<=255) :
  Calls Tryz.prog 61 #[.int .i64 n,.int .u8 x] w fun e w'=>e=.returned (.tuple #[.int .u64 (mk n x).1,.int .i64 (mk n x).2])/\w=w':=by
 by_cases a:n < 1
 ·go_enter Tryz.func61,Tryz.ntmps61
  go_wp2
  go_ret2
  exact ⟨by simp [mk,a],rfl⟩
 by_cases b:536870911 < n
 ·go_enter Tryz.func61,Tryz.ntmps61
  go_wp2
  go_ret2
  exact ⟨by simp [mk,b],rfl⟩
 cases hw:wireB x
 all_goals
  go_enter Tryz.func61,Tryz.ntmps61
  go_wp2_with (go_at_call 90;refine (wire_any _ _).mono ?_;rintro e w' ⟨rfl,rfl⟩)
  go_ret2
  first | rw [mk_bad (by omega) (by omega) hw] | rw [mk_ok (by omega) (by omega) hw]
  exact ⟨by simp;try omega,rfl⟩
theorem split_any (n:Int) (w:World) (h1:0<=n) (h2:n<=18446744073709551615) :
  Calls Tryz.prog 130 #[.int .u64 n] w fun e w'=>e=.returned (.tuple #[.int .i64 (spl n).1,.int .u8 (spl n).2.1,.int .i64 (spl n).2.2])/\w=w':=by
 by_cases a:n / 8 < 1
 ·go_enter Tryz.func130,Tryz.ntmps130
  go_wp2
  go_ret3
  exact ⟨by simp [spl,a],rfl⟩
 by_cases b:536870911 < n / 8
 ·go_enter Tryz.func130,Tryz.ntmps130
  go_wp2
  go_ret3
  exact ⟨by simp [spl,b],rfl⟩
 cases hw:wireB (n % 8)
 all_goals
  go_enter Tryz.func130,Tryz.ntmps130
  go_wp2_with (go_at_call 127;refine (width_any _ _ (by omega) (by omega)).mono ?_;rintro e w' ⟨rfl,rfl⟩)
  go_ret3
  first | rw [spl_bad (by omega) (by omega) hw] | rw [spl_ok (by omega) (by omega) hw]
  exact ⟨rfl,rfl⟩
theorem rsplit_any (n:Int) (w:World) (h1:0<=n) (h2:n<=18446744073709551615) :
  Calls Tryz.prog 86 #[.int .u64 n] w fun e w'=>e=.returned (.tuple #[.int .i64 (spl n).1,.int .u8 (spl n).2.1,.int .i64 (spl n).2.2])/\w=w':=by
 by_cases a:n / 8 < 1
 ·go_enter Tryz.func86,Tryz.ntmps86
  go_wp2
  go_ret3
  exact ⟨by simp [spl,a],rfl⟩
 by_cases b:536870911 < n / 8
 ·go_enter Tryz.func86,Tryz.ntmps86
  go_wp2
  go_ret3
  exact ⟨by simp [spl,b],rfl⟩
 cases hw:wireB (n % 8)
 all_goals
  go_enter Tryz.func86,Tryz.ntmps86
  go_wp2_with (go_at_call 90;refine (wire_any _ _).mono ?_;rintro e w' ⟨rfl,rfl⟩)
  go_ret3
  first | rw [spl_bad (by omega) (by omega) hw] | rw [spl_ok (by omega) (by omega) hw]
  exact ⟨rfl,rfl⟩
end Go.Proofs.YtpmfdlghckfgiaaGreat
