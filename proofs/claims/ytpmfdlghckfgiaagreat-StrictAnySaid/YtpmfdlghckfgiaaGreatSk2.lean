/- A writer in a block, and what its methods -/
import Derived.Test.YtpmfdlghckfgiaaGreatProg
import Derived.Test.YtpmfdlghckfgiaaGreatG0
import Derived.Test.YtpmfdlghckfgiaaGreatM2
import Derived.Test.YtpmfdlghckfgiaaGreatG3
import Derived.Test.YtpmfdlghckfgiaaGreatSk1
import Derived.Test.YtpmfdlghckfgiaaGreatM4
set_option linter.unusedVariables false
set_option maxRecDepth 100000
set_option maxHeartbeats 16000000
namespace Go.Proofs.YtpmfdlghckfgiaaGreat
open Go.RowKit
theorem own_blk_ne {w:World} {B e s n q:Nat} {t:TypeId} {v:Value} {xs:List Value} {cs:Array Value} (h:w.ownsRow B e s v n xs) (hb:Blk w q t cs) (hne:t ≠ e):v.ownBlock ≠ some q:=by
 rcases h.2 with ⟨rfl,_⟩ | ⟨g,c,cur,rfl,_,hg,_⟩
 ·simp [Value.ownBlock]
 ·intro he
  have hgq:g=q:=by simpa [Value.ownBlock] using he
  subst hgq
  rw [show w.heap[g]? = _ from hb] at hg
  injection hg with hg
  injection hg with _ ht
  exact hne ht
def Oset (q:Nat) (v:Value) (k:Nat):Prop:=k=q\/v.ownBlock=some k
structure Stp (q:Nat) (v v':Value) (n:Nat) (w w':World):Prop where
 chg:Chg (Oset q v) w w'
 new:NewOr w v v'
 views:Views 5 v n w w'
section
variable {w w1 w2:World} {B q:Nat} {v v1 v2:Value} {bs:List UInt8} {most n n1:Nat}
theorem NewOr.trans (h:NewOr w v v1) (k:NewOr w1 v1 v2) (hz:w.heap.size<=w1.heap.size):NewOr w v v2:=by
 rcases k with k | k
 ·rcases h with h | h
  ·exact .inl (k.trans h)
  ·exact .inr fun g hg=>h g (k ▸ hg)
 ·exact .inr fun g hg=>Nat.le_trans hz (k g hg)
theorem Oset.back (h:NewOr w v v1) {k:Nat} (hk:k < w.heap.size) (ho:Oset q v1 k):Oset q v k:=by
 rcases ho with ho | ho
 ·exact .inl ho
 ·rcases h with h | h
  ·exact .inr (h ▸ ho)
  ·have:=h k ho;omega
theorem Stp.refl (q:Nat) (v:Value) (n:Nat) (w:World):Stp q v v n w w:=⟨.refl _ _,.inl rfl,fun _ _ _ _ h _=>h⟩
theorem Stp.trans (h:Stp q v v1 n w w1) (k:Stp q v1 v2 n1 w1 w2) (hn:n<=n1):Stp q v v2 n w w2:=by
 refine ⟨?_,h.new.trans k.new h.chg.size,?_⟩
 ·refine ⟨k.chg.os.trans h.chg.os,k.chg.tape.trans h.chg.tape,k.chg.output.trans h.chg.output,Nat.le_trans h.chg.size k.chg.size,fun i hi hq=>?_⟩
  rw [k.chg.block i (Nat.lt_of_lt_of_le hi h.chg.size) fun ho=>hq (ho.back h.new hi)]
  exact h.chg.block i hi hq
 ·intro B v0 n0 xs0 h0 hle
  refine k.views B v0 n0 xs0 (h.views B v0 n0 xs0 h0 hle) fun hne he=>?_
  rcases h.new with hv | hv
  ·exact Nat.le_trans (hle hne (he.trans hv)) hn
  ·exfalso
   cases hb:v0.ownBlock with
   | none=>exact hne hb
   | some g =>
    have h1:=(h0.lt g hb).2
    have h2:=hv g (by rw [<-he,hb])
    omega
theorem Stp.of_new (h:Below w.heap.size w w1):Stp q v v n w w1:=⟨.of_new h,.inl rfl,views_kept h⟩
end
end Go.Proofs.YtpmfdlghckfgiaaGreat
namespace Go.Proofs.YtpmfdlghckfgiaaGreat
open Go.RowKit
def pTail (x:Int) (n:Nat) (xs:List UInt8):List UInt8:=if x=0 then putN n else if x=1 then fixN 8 n else if x=2 then putN xs.length++xs else fixN 4 (n % 4294967296)
def pErr (num x:Int) (xs:List UInt8):Nat:=if (mk num x).2 ≠ 0 then (mk num x).2.toNat else if x=2/\8192 < xs.length then 2 else 0
def pB (num x:Int) (n:Nat) (xs:List UInt8):List UInt8:=putN (mk num x).1.toNat++pTail x n xs
theorem pTail_len {x:Int} {n:Nat} {xs:List UInt8} (hn:n<=18446744073709551615) (hl:xs.length<=100000):(pTail x n xs).length<=10+xs.length:=by
 unfold pTail
 split
 ·have:=putN_length10 hn;omega
 ·split
  ·rw [length_fixN];omega
  ·split
   ·have:=putN_length10 (n:=xs.length) (by omega);rw [List.length_append];omega
   ·rw [length_fixN];omega
def SPut (B bl:Nat) (bs:List UInt8) (num x:Int) (n:Nat) (xs:List UInt8) (w:World) (e:Ending) (W':World):Prop :=
 ((pErr num x xs=0/\∃ v',e=.returned (.tuple #[v',.int .i64 0])/\W'.ownsRow B 5 1 v' (bl+(pB num x n xs).length) ((bs++pB num x n xs).map bv))\/(pErr num x xs ≠ 0/\e=.returned (.tuple #[.slice none 0 0,.int .i64 (pErr num x xs:Nat)])))/\Below B w W'
structure PS (w:World) (B z:Nat) (fs:Array Value) (A:Option Addr) (c:Nat) (xs:List UInt8) (v:Value) (n:Nat) (bs:List UInt8) (W:World):Prop where
 own:W.ownsRow B 5 1 v n (bs.map bv)
 fld:Blk W z 61 fs
 src:Sl W A c (xs.map bv)
 bel:Below B w W
theorem PS.new {w:World} {B z:Nat} {fs:Array Value} {A:Option Addr} {c:Nat} {xs:List UInt8} {v:Value} {n:Nat} {bs:List UInt8} {W W':World} (h:PS w B z fs A c xs v n bs W) (hB:B<=W.heap.size) (hb:Below W.heap.size W W'):PS w B z fs A c xs v n bs W' :=
 ⟨own_below h.own hb,h.fld.below hb h.fld.lt,h.src.below hb,h.bel.trans (hb.mono hB)⟩
theorem PS.grow {w:World} {B z:Nat} {fs:Array Value} {A:Option Addr} {c:Nat} {xs:List UInt8} {v v':Value} {n n':Nat} {bs bs':List UInt8} {W W':World} (h:PS w B z fs A c xs v n bs W) (hf:FarS A xs.length (fun k=>B<=k)) (hB:B<=W.heap.size) (hg:W.grownBy W' v.ownBlock) (ho:W'.ownsRow B 5 1 v' n' (bs.map bv++bs'.map bv)):PS w B z fs A c xs v' n' (bs++bs') W' :=
 ⟨by rw [List.map_append];exact ho,(hg.block z h.fld.lt (fun e=>own_blk_ne h.own h.fld (by decide) e.symm)).trans h.fld,
  (Chg.of_grown hg fun g e=>(h.own.lt g e).1).sl h.src hf (by simp),h.bel.grown hg hB fun k e=>(h.own.lt k e).1⟩
theorem sput_any (w:World) (B:Nat) (v:Value) (bs:List UInt8) (bl:Nat) (num x:Int) (n:Nat) (A:Option Addr) (c xl:Nat) (xs:List UInt8) (at_:Int) (hxl:xs.length=xl) (hl:xl<=100000) (hn:n<=18446744073709551615) (hx0:0<=x) (hx1:x<=255) (hbl:bs.length=bl) (hb9:bl<=1000000000)
  (ho:w.ownsRow B 5 1 v bl (bs.map bv)) (hB:B<=w.heap.size) (hs:Sl w A c (xs.map bv)) (hf:FarS A xl (fun k=>B<=k)) :
  Calls Tryz.prog 100 #[v,.agg #[.int .i64 num,.int .u8 x,.int .u64 (n:Int),.slice A xl c,.int .i64 at_]] w (SPut B bl bs num x n xs w):=by
 obtain ⟨i0,hi,hz0,hz1,hz2⟩:=info_parts Tryz.info5
 have hmf:=mk_facts num x hx0 hx1
 have hmk:=fun W=>make_any num x W hx0 hx1
 have HMK:=hid hmk
 have HO:=hid ho
 have HS:=hid hs
 have HF:=hid hf
 clear hmk ho hs hf
 by_cases he:(mk num x).2=0
 ·obtain ⟨hm1,hm2,hw,-⟩:=mk_ok_inv he
  have hx:x=0\/x=1\/x=2\/x=5:=by
   have:=wireB_lt hw
   unfold wireB at hw
   simp at hw
   omega
  obtain ⟨k,hk⟩:∃ k:Nat,(mk num x).1=(k:Int):=⟨(mk num x).1.toNat,by omega⟩
  have hk64:k<=18446744073709551615:=by omega
  have hpe:pErr num x xs=if x=2/\8192 < xs.length then 2 else 0:=by unfold pErr;rw [if_neg (by omega)]
  have hpb:pB num x n xs=putN k++pTail x n xs:=by unfold pB;rw [hk];rfl
  have hk10:=putN_length10 hk64
  have hmk:=HMK.out
  rw [he,hk] at hmk
  have HMK:=hid hmk
  clear hmk hmf
  have HPE:=hid hpe
  have HPB:=hid hpb
  clear hpe hpb
  generalize hpp:putN k=P at *
  have hvp:=fun W=>vput_any k W hk64
  rw [hpp] at hvp
  have HVP:=hid hvp
  clear hvp hpp
  rcases hx with rfl | rfl | rfl | rfl
  ·go_enter Tryz.func100,Tryz.ntmps100
   go_wp2_with (go_at_call 112;refine (HMK.out _).mono ?_;rintro e w' ⟨rfl,rfl⟩)
   refine (HVP.out _).mono ?_
   rintro e w1 ⟨A1,c1,rfl,hs1,hb1⟩
   have HS1:=hid hs1
   have hsz:B<=w1.heap.size:=by have:=hb1.size;simp at this;omega
   have HSZ1:=hid hsz
   have PS1:=hid (PS.new (PS.mk (z:=w.heap.size) (HO.out.alloc _) (Blk.new w 61 #[.int .i64 num,.int .u8 0,.int .u64 (n:Int),.slice A xl c,.int .i64 at_]) (HS.out.below (bw_a (Below.refl _ w) _)) ((Below.refl B w).alloc hB _)) (by simp;omega) hb1)
   have HFF:=hid (show FarS A xs.length (fun k=>B<=k) by rw [hxl];exact HF.out)
   clear hs1 hb1 hsz HO HS HF HVP HMK
   go_wp2_with (at_builtin;refine wpList_append_rd rfl _ _ 22 rfl B 5 i0 (.int .u8 0) 1 1 Tryz.underlying22 hi hz0 hz1 hz2 rfl (by decide) v (bl) ((bs).map bv) rfl PS1.out.own A1 (P.length) c1 ((P).map bv) rfl (by simp) HS1.out.rd HS1.out.nil0 (bv_one _) (by simp only [maxLen];omega) (by omega) HSZ1.out ?_;intro v2 w2 hown hgrow;obtain ⟨vA2,vc2,rfl,-,-⟩:=Sl.of_own hown;have PS2:=hid (PS1.out.grow HFF.out HSZ1.out hgrow hown);have HSZ2:=hid (Nat.le_trans HSZ1.out hgrow.size);clear hown hgrow;have d1:=PS2.out.fld.cell 1;have d2:=PS2.out.fld.cell 2;have d3:=PS2.out.fld.cell 3;simp only [gA,gB,gC] at d1 d2 d3)
   refine (vput_any n _ hn).mono ?_
   rintro e w3 ⟨A3,c3,rfl,hs3,hb3⟩
   have HS3:=hid hs3
   have PS3:=hid (PS2.out.new HSZ2.out hb3)
   have HSZ3:=hid (Nat.le_trans HSZ2.out hb3.size)
   clear hs3 hb3 d1 d2 d3
   have hl3:=putN_length10 hn
   generalize hq:putN n=Q at *
   go_wp2_with (at_builtin;refine wpList_append_rd rfl _ _ 22 rfl B 5 i0 (.int .u8 0) 1 1 Tryz.underlying22 hi hz0 hz1 hz2 rfl (by decide) _ (bl+P.length) ((bs++P).map bv) rfl PS3.out.own A3 (Q.length) c3 ((Q).map bv) rfl (by simp) HS3.out.rd HS3.out.nil0 (bv_one _) (by simp only [maxLen];omega) (by omega) HSZ3.out ?_;intro v4 w4 hown hgrow;obtain ⟨vA4,vc4,rfl,-,-⟩:=Sl.of_own hown;have PS4:=hid (PS3.out.grow HFF.out HSZ3.out hgrow hown);have HSZ4:=hid (Nat.le_trans HSZ3.out hgrow.size);clear hown hgrow;have d1:=PS4.out.fld.cell 1;have d2:=PS4.out.fld.cell 2;have d3:=PS4.out.fld.cell 3;simp only [gA,gB,gC] at d1 d2 d3)
   go_ret2
   refine ⟨.inl ⟨by rw [HPE.out,if_neg (by omega)],_,rfl,?_⟩,PS4.out.bel⟩
   have ht:pTail 0 n xs=Q:=by rw [<-hq];rfl
   rw [HPB.out,ht,List.length_append,<-Nat.add_assoc,<-List.append_assoc]
   exact PS4.out.own
  ·go_enter Tryz.func100,Tryz.ntmps100
   go_wp2_with (go_at_call 112;refine (HMK.out _).mono ?_;rintro e w' ⟨rfl,rfl⟩)
   refine (HVP.out _).mono ?_
   rintro e w1 ⟨A1,c1,rfl,hs1,hb1⟩
   have HS1:=hid hs1
   have hsz:B<=w1.heap.size:=by have:=hb1.size;simp at this;omega
   have HSZ1:=hid hsz
   have PS1:=hid (PS.new (PS.mk (z:=w.heap.size) (HO.out.alloc _) (Blk.new w 61 #[.int .i64 num,.int .u8 1,.int .u64 (n:Int),.slice A xl c,.int .i64 at_]) (HS.out.below (bw_a (Below.refl _ w) _)) ((Below.refl B w).alloc hB _)) (by simp;omega) hb1)
   have HFF:=hid (show FarS A xs.length (fun k=>B<=k) by rw [hxl];exact HF.out)
   clear hs1 hb1 hsz HO HS HF HVP HMK
   go_wp2_with (at_builtin;refine wpList_append_rd rfl _ _ 22 rfl B 5 i0 (.int .u8 0) 1 1 Tryz.underlying22 hi hz0 hz1 hz2 rfl (by decide) v (bl) ((bs).map bv) rfl PS1.out.own A1 (P.length) c1 ((P).map bv) rfl (by simp) HS1.out.rd HS1.out.nil0 (bv_one _) (by simp only [maxLen];omega) (by omega) HSZ1.out ?_;intro v2 w2 hown hgrow;obtain ⟨vA2,vc2,rfl,-,-⟩:=Sl.of_own hown;have PS2:=hid (PS1.out.grow HFF.out HSZ1.out hgrow hown);have HSZ2:=hid (Nat.le_trans HSZ1.out hgrow.size);clear hown hgrow;have d1:=PS2.out.fld.cell 1;have d2:=PS2.out.fld.cell 2;have d3:=PS2.out.fld.cell 3;simp only [gA,gB,gC] at d1 d2 d3)
   refine (fix64_any n hn _).mono ?_
   rintro e w3 ⟨A3,c3,rfl,hs3,hb3⟩
   have HS3:=hid hs3
   have PS3:=hid (PS2.out.new HSZ2.out hb3)
   have HSZ3:=hid (Nat.le_trans HSZ2.out hb3.size)
   clear hs3 hb3 d1 d2 d3
   have hl3:=length_fixN 8 n
   generalize hq:fixN 8 n=Q at *
   go_wp2_with (at_builtin;refine wpList_append_rd rfl _ _ 22 rfl B 5 i0 (.int .u8 0) 1 1 Tryz.underlying22 hi hz0 hz1 hz2 rfl (by decide) _ (bl+P.length) ((bs++P).map bv) rfl PS3.out.own A3 (8) c3 ((Q).map bv) rfl (by simp [hl3]) HS3.out.rd HS3.out.nil0 (bv_one _) (by simp only [maxLen];omega) (by omega) HSZ3.out ?_;intro v4 w4 hown hgrow;obtain ⟨vA4,vc4,rfl,-,-⟩:=Sl.of_own hown;have PS4:=hid (PS3.out.grow HFF.out HSZ3.out hgrow hown);have HSZ4:=hid (Nat.le_trans HSZ3.out hgrow.size);clear hown hgrow;have d1:=PS4.out.fld.cell 1;have d2:=PS4.out.fld.cell 2;have d3:=PS4.out.fld.cell 3;simp only [gA,gB,gC] at d1 d2 d3)
   go_ret2
   refine ⟨.inl ⟨by rw [HPE.out,if_neg (by omega)],_,rfl,?_⟩,PS4.out.bel⟩
   have ht:pTail 1 n xs=Q:=by rw [<-hq];rfl
   rw [HPB.out,ht,List.length_append,<-Nat.add_assoc,<-List.append_assoc,hl3]
   exact PS4.out.own
  ·by_cases hlong:8192 < xl
   ·go_enter Tryz.func100,Tryz.ntmps100
    go_wp2_with (go_at_call 112;refine (HMK.out _).mono ?_;rintro e w' ⟨rfl,rfl⟩)
    refine (HVP.out _).mono ?_
    rintro e w1 ⟨A1,c1,rfl,hs1,hb1⟩
    have HS1:=hid hs1
    have hsz:B<=w1.heap.size:=by have:=hb1.size;simp at this;omega
    have HSZ1:=hid hsz
    have PS1:=hid (PS.new (PS.mk (z:=w.heap.size) (HO.out.alloc _) (Blk.new w 61 #[.int .i64 num,.int .u8 2,.int .u64 (n:Int),.slice A xl c,.int .i64 at_]) (HS.out.below (bw_a (Below.refl _ w) _)) ((Below.refl B w).alloc hB _)) (by simp;omega) hb1)
    have HFF:=hid (show FarS A xs.length (fun k=>B<=k) by rw [hxl];exact HF.out)
    clear hs1 hb1 hsz HO HS HF HVP HMK
    go_wp2_with (at_builtin;refine wpList_append_rd rfl _ _ 22 rfl B 5 i0 (.int .u8 0) 1 1 Tryz.underlying22 hi hz0 hz1 hz2 rfl (by decide) v (bl) ((bs).map bv) rfl PS1.out.own A1 (P.length) c1 ((P).map bv) rfl (by simp) HS1.out.rd HS1.out.nil0 (bv_one _) (by simp only [maxLen];omega) (by omega) HSZ1.out ?_;intro v2 w2 hown hgrow;obtain ⟨vA2,vc2,rfl,-,-⟩:=Sl.of_own hown;have PS2:=hid (PS1.out.grow HFF.out HSZ1.out hgrow hown);have HSZ2:=hid (Nat.le_trans HSZ1.out hgrow.size);clear hown hgrow;have d1:=PS2.out.fld.cell 1;have d2:=PS2.out.fld.cell 2;have d3:=PS2.out.fld.cell 3;simp only [gA,gB,gC] at d1 d2 d3)
    go_ret2
    have hpe:pErr num 2 xs=2:=by rw [HPE.out];simp [hxl,hlong]
    refine ⟨.inr ⟨by rw [hpe];decide,by rw [hpe];rfl⟩,PS2.out.bel⟩
   ·go_enter Tryz.func100,Tryz.ntmps100
    go_wp2_with (go_at_call 112;refine (HMK.out _).mono ?_;rintro e w' ⟨rfl,rfl⟩)
    refine (HVP.out _).mono ?_
    rintro e w1 ⟨A1,c1,rfl,hs1,hb1⟩
    have HS1:=hid hs1
    have hsz:B<=w1.heap.size:=by have:=hb1.size;simp at this;omega
    have HSZ1:=hid hsz
    have PS1:=hid (PS.new (PS.mk (z:=w.heap.size) (HO.out.alloc _) (Blk.new w 61 #[.int .i64 num,.int .u8 2,.int .u64 (n:Int),.slice A xl c,.int .i64 at_]) (HS.out.below (bw_a (Below.refl _ w) _)) ((Below.refl B w).alloc hB _)) (by simp;omega) hb1)
    have HFF:=hid (show FarS A xs.length (fun k=>B<=k) by rw [hxl];exact HF.out)
    clear hs1 hb1 hsz HO HS HF HVP HMK
    go_wp2_with (at_builtin;refine wpList_append_rd rfl _ _ 22 rfl B 5 i0 (.int .u8 0) 1 1 Tryz.underlying22 hi hz0 hz1 hz2 rfl (by decide) v (bl) ((bs).map bv) rfl PS1.out.own A1 (P.length) c1 ((P).map bv) rfl (by simp) HS1.out.rd HS1.out.nil0 (bv_one _) (by simp only [maxLen];omega) (by omega) HSZ1.out ?_;intro v2 w2 hown hgrow;obtain ⟨vA2,vc2,rfl,-,-⟩:=Sl.of_own hown;have PS2:=hid (PS1.out.grow HFF.out HSZ1.out hgrow hown);have HSZ2:=hid (Nat.le_trans HSZ1.out hgrow.size);clear hown hgrow;have d1:=PS2.out.fld.cell 1;have d2:=PS2.out.fld.cell 2;have d3:=PS2.out.fld.cell 3;simp only [gA,gB,gC] at d1 d2 d3)
    have hvx:=fun W=>vput_any xl W (by omega)
    have hl3:=putN_length10 (n:=xl) (by omega)
    generalize hq:putN xl=Q at *
    have HVX:=hid hvx
    clear hvx
    refine (HVX.out _).mono ?_
    rintro e w3 ⟨A3,c3,rfl,hs3,hb3⟩
    have HS3:=hid hs3
    have PS3:=hid (PS2.out.new HSZ2.out hb3)
    have HSZ3:=hid (Nat.le_trans HSZ2.out hb3.size)
    clear hs3 hb3 d1 d2 d3
    go_wp2_with (first | (at_builtin;refine wpList_append_rd rfl _ _ 22 rfl B 5 i0 (.int .u8 0) 1 1 Tryz.underlying22 hi hz0 hz1 hz2 rfl (by decide) _ (bl+P.length) ((bs++P).map bv) rfl PS3.out.own A3 (Q.length) c3 ((Q).map bv) rfl (by simp) HS3.out.rd HS3.out.nil0 (bv_one _) (by simp only [maxLen];omega) (by omega) HSZ3.out ?_;intro v4 w4 hown hgrow;obtain ⟨vA4,vc4,rfl,-,-⟩:=Sl.of_own hown;have PS4:=hid (PS3.out.grow HFF.out HSZ3.out hgrow hown);have HSZ4:=hid (Nat.le_trans HSZ3.out hgrow.size);clear hown hgrow;have d1:=PS4.out.fld.cell 1;have d2:=PS4.out.fld.cell 2;have d3:=PS4.out.fld.cell 3;simp only [gA,gB,gC] at d1 d2 d3) | (at_builtin;refine wpList_append_rd rfl _ _ 22 rfl B 5 i0 (.int .u8 0) 1 1 Tryz.underlying22 hi hz0 hz1 hz2 rfl (by decide) _ (bl+P.length+Q.length) ((bs++P++Q).map bv) rfl PS4.out.own A (xl) c ((xs).map bv) rfl (by simp [hxl]) PS4.out.src.rd PS4.out.src.nil0 (bv_one _) (by simp only [maxLen];omega) (by omega) HSZ4.out ?_;intro v5 w5 hown hgrow;obtain ⟨vA5,vc5,rfl,-,-⟩:=Sl.of_own hown;have PS5:=hid (PS4.out.grow HFF.out HSZ4.out hgrow hown);have HSZ5:=hid (Nat.le_trans HSZ4.out hgrow.size);clear hown hgrow;have d1:=PS5.out.fld.cell 1;have d2:=PS5.out.fld.cell 2;have d3:=PS5.out.fld.cell 3;simp only [gA,gB,gC] at d1 d2 d3))
    go_ret2
    refine ⟨.inl ⟨by rw [HPE.out,if_neg (by omega)],_,rfl,?_⟩,PS5.out.bel⟩
    have ht:pTail 2 n xs=Q++xs:=by rw [<-hq,<-hxl];rfl
    rw [HPB.out,ht,List.length_append,List.length_append,hxl,<-Nat.add_assoc,<-Nat.add_assoc,<-List.append_assoc,<-List.append_assoc]
    exact PS5.out.own
  ·go_enter Tryz.func100,Tryz.ntmps100
   go_wp2_with (go_at_call 112;refine (HMK.out _).mono ?_;rintro e w' ⟨rfl,rfl⟩)
   refine (HVP.out _).mono ?_
   rintro e w1 ⟨A1,c1,rfl,hs1,hb1⟩
   have HS1:=hid hs1
   have hsz:B<=w1.heap.size:=by have:=hb1.size;simp at this;omega
   have HSZ1:=hid hsz
   have PS1:=hid (PS.new (PS.mk (z:=w.heap.size) (HO.out.alloc _) (Blk.new w 61 #[.int .i64 num,.int .u8 5,.int .u64 (n:Int),.slice A xl c,.int .i64 at_]) (HS.out.below (bw_a (Below.refl _ w) _)) ((Below.refl B w).alloc hB _)) (by simp;omega) hb1)
   have HFF:=hid (show FarS A xs.length (fun k=>B<=k) by rw [hxl];exact HF.out)
   clear hs1 hb1 hsz HO HS HF HVP HMK
   go_wp2_with (at_builtin;refine wpList_append_rd rfl _ _ 22 rfl B 5 i0 (.int .u8 0) 1 1 Tryz.underlying22 hi hz0 hz1 hz2 rfl (by decide) v (bl) ((bs).map bv) rfl PS1.out.own A1 (P.length) c1 ((P).map bv) rfl (by simp) HS1.out.rd HS1.out.nil0 (bv_one _) (by simp only [maxLen];omega) (by omega) HSZ1.out ?_;intro v2 w2 hown hgrow;obtain ⟨vA2,vc2,rfl,-,-⟩:=Sl.of_own hown;have PS2:=hid (PS1.out.grow HFF.out HSZ1.out hgrow hown);have HSZ2:=hid (Nat.le_trans HSZ1.out hgrow.size);clear hown hgrow;have d1:=PS2.out.fld.cell 1;have d2:=PS2.out.fld.cell 2;have d3:=PS2.out.fld.cell 3;simp only [gA,gB,gC] at d1 d2 d3)
   have hnm:n % 4294967296<=4294967295:=by omega
   refine (fix32_any (n % 4294967296) hnm _).mono ?_
   rintro e w3 ⟨A3,c3,rfl,hs3,hb3⟩
   have HS3:=hid hs3
   have PS3:=hid (PS2.out.new HSZ2.out hb3)
   have HSZ3:=hid (Nat.le_trans HSZ2.out hb3.size)
   clear hs3 hb3 d1 d2 d3
   have hl3:=length_fixN 4 (n % 4294967296)
   generalize hq:fixN 4 (n % 4294967296)=Q at *
   go_wp2_with (at_builtin;refine wpList_append_rd rfl _ _ 22 rfl B 5 i0 (.int .u8 0) 1 1 Tryz.underlying22 hi hz0 hz1 hz2 rfl (by decide) _ (bl+P.length) ((bs++P).map bv) rfl PS3.out.own A3 (4) c3 ((Q).map bv) rfl (by simp [hl3]) HS3.out.rd HS3.out.nil0 (bv_one _) (by simp only [maxLen];omega) (by omega) HSZ3.out ?_;intro v4 w4 hown hgrow;obtain ⟨vA4,vc4,rfl,-,-⟩:=Sl.of_own hown;have PS4:=hid (PS3.out.grow HFF.out HSZ3.out hgrow hown);have HSZ4:=hid (Nat.le_trans HSZ3.out hgrow.size);clear hown hgrow;have d1:=PS4.out.fld.cell 1;have d2:=PS4.out.fld.cell 2;have d3:=PS4.out.fld.cell 3;simp only [gA,gB,gC] at d1 d2 d3)
   go_ret2
   refine ⟨.inl ⟨by rw [HPE.out,if_neg (by omega)],_,rfl,?_⟩,PS4.out.bel⟩
   have ht:pTail 5 n xs=Q:=by rw [<-hq];rfl
   rw [HPB.out,ht,List.length_append,<-Nat.add_assoc,<-List.append_assoc,hl3]
   exact PS4.out.own
 ·have hm:pErr num x xs=(mk num x).2.toNat:=by unfold pErr;rw [if_pos he]
  obtain ⟨er,her⟩:∃ er:Nat,(mk num x).2=(er:Int):=⟨(mk num x).2.toNat,by omega⟩
  have hmk:=HMK.out
  rw [her] at hm hmk
  have hern:er ≠ 0:=by omega
  have HPE:=hid hm
  have HMK:=hid hmk
  clear hmk hm her he
  generalize (mk num x).1=k at *
  have heb:(((er:Nat):Int) != 0)=true:=by simpa using hern
  go_enter Tryz.func100,Tryz.ntmps100
  go_wp2_with (go_at_call 112;refine (HMK.out _).mono ?_;rintro e w' ⟨rfl,rfl⟩)
  go_ret2
  exact ⟨.inr ⟨by rw [HPE.out];simpa using hern,by rw [HPE.out];simp⟩,(Below.refl B w).alloc hB _⟩
end Go.Proofs.YtpmfdlghckfgiaaGreat
namespace Go.Proofs.YtpmfdlghckfgiaaGreat
open Go.RowKit
structure FvOk (w:World) (f:FV):Prop where
 w0:0<=f.w
 w1:f.w<=255
 n:f.n<=18446744073709551615
 n1 : -9223372036854775808<=f.num
 n2:f.num<=9223372036854775807
 a1 : -9223372036854775808<=f.at_
 a2:f.at_<=9223372036854775807
 s:Sl w f.s.A f.s.c (f.s.xs.map bv)
def pErrF (f:FV):Nat:=pErr f.num f.w f.s.xs
def pBF (f:FV):List UInt8:=pB f.num f.w f.n f.s.xs
def putsE:List FV->Nat->Nat × Nat
 | [],_=>(0,0)
 | f :: fs,i=>if pErrF f=0 then putsE fs (i+1) else (pErrF f,i)
theorem putsE_bad (l:List FV) (j i:Nat) (hj:j < l.length) (h:pErrF l[j] ≠ 0):putsE (l.drop j) i=(pErrF l[j],i):=by
 rw [List.drop_eq_getElem_cons hj,putsE,if_neg h]
theorem putsE_good (l:List FV) (j i:Nat) (hj:j < l.length) (h:pErrF l[j]=0):putsE (l.drop j) i=putsE (l.drop (j+1)) (i+1):=by
 rw [List.drop_eq_getElem_cons hj,putsE,if_pos h]
end Go.Proofs.YtpmfdlghckfgiaaGreat
namespace Go.Proofs.YtpmfdlghckfgiaaGreat
open Go.RowKit
theorem pBF_len8 (f:FV) (hn:f.n<=18446744073709551615) (h0:0<=f.w) (h1:f.w<=255) (hl:f.s.xs.length<=8000):(pBF f).length<=8100:=by
 have hm:=mk_facts f.num f.w h0 h1
 have h2:=putN_length10 (n:=(mk f.num f.w).1.toNat) (by omega)
 have h3:=pTail_len (x:=f.w) (xs:=f.s.xs) hn (by omega)
 unfold pBF pB
 rw [List.length_append]
 omega
theorem sputs8_any (l:List FV) (m:Nat) (A:Option Addr) (c:Nat) (w:World) (hm:l.length=m) (hm2:m<=100) (hl:SlN w A m c 5 (l.flatMap fvC)) (hok:∀ f ∈ l,FvOk w f) (hx:∀ f ∈ l,f.s.xs.length<=8000) :
  Calls Tryz.prog 82 #[.slice A m c] w fun e w'=>(((putsE l 0).1=0/\∃ v,e=.returned (.tuple #[v,.agg #[.int .i64 0,.int .i64 0]])/\w'.ownsRow w.heap.size 5 1 v (l.flatMap pBF).length ((l.flatMap pBF).map bv)) \/
   ((putsE l 0).1 ≠ 0/\e=.returned (.tuple #[.slice none 0 0,.agg #[.int .i64 ((putsE l 0).1:Nat),.int .i64 ((putsE l 0).2:Nat)]])))/\Below w.heap.size w w':=by
 have hcm:m<=9223372036854775807:=by omega
 have HM:=hid hm
 have HL:=hid hl
 have HOK:=hid hok
 have HX:=hid hx
 clear hm hl hok hx
 obtain ⟨R,hR⟩:∃ R:Ending->World->Prop,R=fun e w'=>(((putsE l 0).1=0/\∃ v,e=.returned (.tuple #[v,.agg #[.int .i64 0,.int .i64 0]])/\w'.ownsRow w.heap.size 5 1 v (l.flatMap pBF).length ((l.flatMap pBF).map bv)) \/
   ((putsE l 0).1 ≠ 0/\e=.returned (.tuple #[.slice none 0 0,.agg #[.int .i64 ((putsE l 0).1:Nat),.int .i64 ((putsE l 0).2:Nat)]])))/\Below w.heap.size w w':=⟨_,rfl⟩
 rw [<-hR]
 have HR:=hid hR
 clear hR
 go_enter Tryz.func82,Tryz.ntmps82
 go_wp2_with fail
 have hB0:=bw_a (Below.refl w.heap.size w) (.cells #[.int .i64 0,.int .i64 0] 32)
 have hk0:=Blk.new w 32 #[.int .i64 0,.int .i64 0]
 go_loopw [4,10] (fun v i wr=>∃ (j:Nat) (bl:Nat),j<=m/\i=.int .i64 (j:Int)/\bl<=8100 * j/\bl=((l.take j).flatMap pBF).length/\wr.ownsRow (w.heap.size+1) 5 1 v bl (((l.take j).flatMap pBF).map bv)/\Blk wr w.heap.size 32 #[.int .i64 0,.int .i64 0]/\Below w.heap.size w wr/\putsE l 0=putsE (l.drop j) j) (fun _ i _=>m - (intOf i).toNat)
 case atStart=>exact ⟨0,0,by omega,rfl,by omega,rfl,World.ownsRow_nil _ _ _ _,hk0,hB0,rfl⟩
 case round =>
  obtain ⟨j,bl,hj,rfl,hbl,hbe,ho,hk,hB,hpe⟩:=hrel
  have c0:=hk.cell 0
  have c1:=hk.cell 1
  have g0:=hk.frozen 0
  have g1:=hk.frozen 1
  simp only [gA,gB,gC] at c0 c1
  by_cases hlt:j < m
  ·have hjl:j < l.length:=by have:=HM.out;omega
   have hn0:(l.flatMap fvC)[j * 5+0]? = _:=flatMap_get fvC 5 l j 0 hjl (fun _ _=>rfl) (by omega)
   have hn1:(l.flatMap fvC)[j * 5+1]? = _:=flatMap_get fvC 5 l j 1 hjl (fun _ _=>rfl) (by omega)
   have hn2:(l.flatMap fvC)[j * 5+2]? = _:=flatMap_get fvC 5 l j 2 hjl (fun _ _=>rfl) (by omega)
   have hn3:(l.flatMap fvC)[j * 5+3]? = _:=flatMap_get fvC 5 l j 3 hjl (fun _ _=>rfl) (by omega)
   have hn4:(l.flatMap fvC)[j * 5+4]? = _:=flatMap_get fvC 5 l j 4 hjl (fun _ _=>rfl) (by omega)
   have hoka:=HOK.out l[j] (List.getElem_mem hjl)
   have hxa:=HX.out l[j] (List.getElem_mem hjl)
   have hbad:=putsE_bad l j j hjl
   have hgood:=putsE_good l j j hjl
   have htk:l.take (j+1)=l.take j++[l[j]]:=(List.take_append_getElem hjl).symm
   obtain ⟨b,off,rfl,hbw,t0⟩:=HL.out.rd _ _ hn0
   have u1:=HL.out.rd.addr _ _ hn1
   have u2:=HL.out.rd.addr _ _ hn2
   have u3:=HL.out.rd.addr _ _ hn3
   have u4:=HL.out.rd.addr _ _ hn4
   rw [addr_add] at u1 u2 u3 u4
   simp only [Nat.add_zero,<-Nat.add_assoc] at t0 u1 u2 u3 u4
   have t0:=(hB.cell (p:=⟨b,off+j * 5,none⟩) hbw).trans t0
   have t1:=(hB.cell (p:=⟨b,off+j * 5+1,none⟩) hbw).trans u1
   have t2:=(hB.cell (p:=⟨b,off+j * 5+2,none⟩) hbw).trans u2
   have t3:=(hB.cell (p:=⟨b,off+j * 5+3,none⟩) hbw).trans u3
   have t4:=(hB.cell (p:=⟨b,off+j * 5+4,none⟩) hbw).trans u4
   have hji:(j:Int) < (m:Int):=by omega
   have hj0:(0:Int)<=(j:Int):=by omega
   clear hn0 hn1 hn2 hn3 hn4 u1 u2 u3 u4
   have hpl:=pBF_len8 l[j] hoka.n hoka.w0 hoka.w1 hxa
   generalize l[j]=f at *
   obtain ⟨fnum,fw,fn_,⟨fA,fc,fxs⟩,fat⟩:=f
   dsimp only at t0 t1 t2 t3 t4 hxa
   obtain ⟨xl,hxl⟩:∃ xl,fxs.length=xl:=⟨_,rfl⟩
   rw [hxl] at t3 hxa
   have hfar:FarS fA xl (fun k=>w.heap.size+1<=k):=fun hp b' o' he ho=>by
    obtain ⟨b2,o2,e2,hlt2,_⟩:=hoka.s.rd 0 (bv (fxs[0]'(by omega))) (by simp [List.getElem?_eq_getElem (show 0 < fxs.length by omega)])
    simp only at e2
    rw [he] at e2
    injection e2 with e2
    injection e2 with e3 e4
    omega
   have hput:=fun W (hW:Below wr.heap.size wr W)=>sput_any W (w.heap.size+1) _ _ bl fnum fw fn_ fA fc xl fxs fat hxl (by omega) hoka.n hoka.w0 hoka.w1 hbe.symm (by omega) (own_below ho hW) (by have:=hW.size;have:=hk.lt;omega) (hoka.s.below (hB.trans (hW.mono hB.size))) hfar
   have HPUT:=hid hput
   have HPE:=hid hpe
   have HBAD:=hid hbad
   have HGOOD:=hid hgood
   have HTK:=hid htk
   have HHB:=hid hB
   have HHK:=hid hk
   clear hput hpe hbad hgood htk hB hk hoka ho
   obtain ⟨er,her⟩:∃ er,pErr fnum fw fxs=er:=⟨_,rfl⟩
   obtain ⟨pb,hpb⟩:∃ pb,pB fnum fw fn_ fxs=pb:=⟨_,rfl⟩
   have hput:=HPUT.out
   unfold SPut at hput
   rw [her,hpb] at hput
   have hq1:pErrF ⟨fnum,fw,fn_,⟨fA,fc,fxs⟩,fat⟩=er:=her
   have hq2:pBF ⟨fnum,fw,fn_,⟨fA,fc,fxs⟩,fat⟩=pb:=hpb
   have HQ1:=hid hq1
   have HQ2:=hid hq2
   have HPUT:=hid hput
   rw [hq2] at hpl
   clear hput hq1 hq2 her hpb
   by_cases he:er=0
   ·subst he
    go_wp2_with (go_at_call 100;refine (HPUT.out _ (bw_a (Below.refl _ wr) _)).mono ?_;rintro e w2 ⟨(⟨hz,v2,rfl,ho2⟩ | ⟨hz,rfl⟩),hb2⟩;rotate_left;exact absurd rfl hz)
    have hbk:Below (w.heap.size+1) wr w2:=((Below.refl _ wr).alloc (by have:=HHK.out.lt;omega) _).trans hb2
    go_roundw
    case rel =>
     refine ⟨j+1,bl+pb.length,by omega,by go_num,by omega,?_,?_,HHK.out.below hbk (by omega),HHB.out.trans (hbk.mono (by omega)),by rw [HPE.out,HGOOD.out HQ1.out]⟩
     ·rw [HTK.out,List.flatMap_append,List.length_append,<-hbe];simp [HQ2.out]
     ·rw [HTK.out,List.flatMap_append];simpa [HQ2.out] using ho2
    case measure=>simp [intOf] <;> omega
   ·have heb:(((er:Nat):Int) != 0)=true:=by simpa using he
    go_wp2_with (go_at_call 100;refine (HPUT.out _ (bw_a (Below.refl _ wr) _)).mono ?_;rintro e w2 ⟨(⟨hz,v2,rfl,ho2⟩ | ⟨hz,rfl⟩),hb2⟩;exact absurd hz he;have hbk:Below (w.heap.size+1) wr w2:=(((Below.refl _ wr).alloc (by have:=HHK.out.lt;omega) _).trans hb2);have hk2:=HHK.out.below hbk (by omega);have q0:=hk2.cell 0;have q1:=hk2.cell 1;have q2:=hk2.frozen 0;have q3:=hk2.frozen 1;simp only [gA,gB,gC] at q0 q1)
    have hf:Blk ((w2.setCell ⟨w.heap.size,0,none⟩ (.int .i64 (er:Int))).setCell ⟨w.heap.size,1,none⟩ (.int .i64 (j:Int))) w.heap.size 32 #[.int .i64 (er:Int),.int .i64 (j:Int)]:=by simpa using (hk2.set_ 0 (.int .i64 (er:Int))).set_ 1 (.int .i64 (j:Int))
    have hbf:=((HHB.out.trans (hbk.mono (by omega))).setCell (p:=⟨w.heap.size,0,none⟩) (Nat.le_refl _) (.int .i64 (er:Int))).setCell (p:=⟨w.heap.size,1,none⟩) (Nat.le_refl _) (.int .i64 (j:Int))
    have f0:=hf.cell 0
    have f1:=hf.cell 1
    simp only [gA,gB,gC] at f0 f1
    have hpe2:putsE l 0=(er,j):=by rw [HPE.out,HBAD.out (by rw [HQ1.out];exact he),HQ1.out]
    clear hf q0 q1 q2 q3 hk2
    generalize World.setCell (World.setCell _ _ _) _ _=W3 at *
    refine bodyPost_ret (v:=.tuple #[.slice none 0 0,.agg #[.int .i64 (er:Int),.int .i64 (j:Int)]]) (by simp [results,Tryz.results82,go_sem,f0,f1]) rfl ?_
    rw [HR.out]
    exact ⟨.inr ⟨by rw [hpe2];exact he,by rw [hpe2]⟩,hbf⟩
  ·obtain rfl:j=m:=by omega
   go_wp2
   have hf:Blk ((wr.setCell ⟨w.heap.size,0,none⟩ (.int .i64 0)).setCell ⟨w.heap.size,1,none⟩ (.int .i64 0)) w.heap.size 32 #[.int .i64 0,.int .i64 0]:=by simpa using (hk.set_ 0 (.int .i64 0)).set_ 1 (.int .i64 0)
   have hbf:=(hB.setCell (p:=⟨w.heap.size,0,none⟩) (Nat.le_refl _) (.int .i64 0)).setCell (p:=⟨w.heap.size,1,none⟩) (Nat.le_refl _) (.int .i64 0)
   have ho2:=own_setBelow (own_setBelow ho (p:=⟨w.heap.size,0,none⟩) (by show w.heap.size < _;omega) (.int .i64 0)) (p:=⟨w.heap.size,1,none⟩) (by show w.heap.size < _;omega) (.int .i64 0)
   have f0:=hf.cell 0
   have f1:=hf.cell 1
   simp only [gA,gB,gC] at f0 f1
   have hlj:l.length=j:=HM.out
   rw [List.take_of_length_le (by omega)] at ho2 hbe
   rw [List.drop_of_length_le (by omega)] at hpe
   clear hf ho c0 c1 g0 g1 hk
   generalize World.setCell (World.setCell _ _ _) _ _=W3 at *
   refine bodyPost_ret (v:=.tuple #[u4,.agg #[.int .i64 0,.int .i64 0]]) (by simp [results,Tryz.results82,go_sem,f0,f1]) rfl ?_
   rw [HR.out]
   exact ⟨.inl ⟨by rw [hpe];rfl,u4,rfl,by rw [<-hbe];exact own_mono ho2 (by omega)⟩,hbf⟩
end Go.Proofs.YtpmfdlghckfgiaaGreat
namespace Go.Proofs.YtpmfdlghckfgiaaGreat
open Go.RowKit
theorem rHead_le (bs:List UInt8) (p:Nat) (hp:p<=bs.length) (h:(rHead bs p).2.2.1=0):(rHead bs p).2.2.2<=bs.length:=by
 unfold rHead at h ⊢
 have hg:=M.get_facts (bs.drop p)
 have hd:(bs.drop p).length=bs.length - p:=List.length_drop
 split
 ·rename_i h0
  rw [if_pos h0] at h
  have h2:=(hg.1 h0).2.2.1
  simp only
  omega
 ·exact hp
end Go.Proofs.YtpmfdlghckfgiaaGreat
namespace Go.Proofs.YtpmfdlghckfgiaaGreat
def bareN (f:FV):Nat:=if f.w=2 then 0 else if f.w=5 then f.n % 4294967296 else f.n
def bareX (f:FV):List UInt8:=if f.w=2 then f.s.xs else []
theorem pErr_inv (f:FV) (h:pErrF f=0) (w0:0<=f.w) (w1:f.w<=255):(mk f.num f.w).2=0/\(f.w=0\/f.w=1\/f.w=2\/f.w=5)/\(f.w=2->f.s.xs.length<=8192):=by
 have hf:=mk_facts f.num f.w w0 w1
 unfold pErrF pErr at h
 by_cases h0:(mk f.num f.w).2=0
 ·rw [if_neg (by omega)] at h
  obtain ⟨h1,h2,hw,he⟩:=mk_ok_inv h0
  refine ⟨h0,by unfold wireB at hw;simpa using hw,fun h2=>?_⟩
  by_cases hl:8192 < f.s.xs.length
  ·rw [if_pos ⟨h2,hl⟩] at h;omega
  ·omega
 ·rw [if_pos h0] at h;omega
section
variable {E pre rest:List UInt8} {p:Nat}
end
theorem fvAll_get {fs:List FV} {rs:List (RF × Nat)} (h:fvAll fs rs) (k:Nat) (hk:k < fs.length) (hk2:k < rs.length):fvOf fs[k] rs[k]:=by
 induction fs generalizing rs k with
 | nil=>simp at hk
 | cons f fs ih=>cases rs with
  | nil=>exact h.elim
  | cons r rs=>cases k with
   | zero=>exact h.1
   | succ k=>exact ih h.2 k (by simpa using hk) (by simpa using hk2)
theorem put_get_len (b:List UInt8) (h:(M.get b).2.2=0):(putN (M.get b).1).length<=(M.get b).2.1:=by
 obtain ⟨v,hv,hs,-⟩:=put_getF b 0 0 (by omega) (by simp) h
 have hv2:(M.get b).1=v:=by unfold M.get;rw [hv];simp
 rw [hv2,putN_size]
 have:0+sizeN v<=(M.get b).2.1:=hs
 omega
theorem again_one (f:FV) (bs:List UInt8) (p:Nat) (hp:p<=bs.length) (h:(rOne bs p).e=0) (hf:fvOf f (rOne bs p,p)):pErrF f=0/\bareN f=f.n/\bareX f=f.s.xs/\p+(pBF f).length<=(rOne bs p).nx:=by
 obtain ⟨f1,f2,f3,f4,-⟩:=hf
 simp only at f1 f2 f3 f4
 unfold bareN bareX pErrF pErr pBF pB
 rw [f1,f2,f3,f4]
 clear f1 f2 f3 f4
 unfold rOne at h ⊢
 by_cases h0:(rHead bs p).2.2.1=0
 ·rw [if_pos h0] at h ⊢
  have hh:=rHead_facts bs p h0
  simp only at h ⊢
  have hle:=rHead_le bs p hp h0
  have hmk:(mk (rHead bs p).1 (rHead bs p).2.1).2=0/\p+(putN (mk (rHead bs p).1 (rHead bs p).2.1).1.toNat).length<=(rHead bs p).2.2.2:=by
   unfold rHead at h0 ⊢
   by_cases hg:(M.get (bs.drop p)).2.2=0
   ·rw [if_pos hg] at h0 ⊢
    simp only at h0 ⊢
    have hse:=spl_err ((M.get (bs.drop p)).1:Int)
    have hms:=mk_spl (n:=((M.get (bs.drop p)).1:Int)) (by omega)
    rw [hms]
    have hl:=put_get_len _ hg
    simp only [Int.toNat_natCast]
    exact ⟨trivial,by omega⟩
   ·rw [if_neg hg] at h0;exact absurd h0 hg
  generalize (rHead bs p).2.2.2=r at *
  generalize hw0:(rHead bs p).2.1=w at *
  generalize (rHead bs p).1=num at *
  obtain ⟨hm,hlm⟩:=hmk
  obtain ⟨-,-,hw,-⟩:=hh
  have hd:(bs.drop r).length=bs.length - r:=List.length_drop
  rcases hw with rfl | rfl | rfl | rfl
  ·have hv:rVal 0 bs r=(if (M.get (bs.drop r)).2.2=0 then (M.get (bs.drop r)).1 else 0,[],(M.get (bs.drop r)).2.2,plc (M.get (bs.drop r)).2.2 r (r+(M.get (bs.drop r)).2.1)):=by unfold rVal;rw [if_pos rfl]
   rw [hv] at h ⊢
   simp only at h ⊢
   have hl:=put_get_len _ h
   rw [h]
   refine ⟨by rw [if_neg (by omega),if_neg (by omega)],by rw [if_neg (by omega),if_neg (by omega)],rfl,?_⟩
   simp only [pTail,plc,if_true,List.length_append]
   omega
  ·have hv:rVal 1 bs r=(if (rFix 8 bs r).2.1=0 then (rFix 8 bs r).1 else 0,[],(rFix 8 bs r).2.1,plc (rFix 8 bs r).2.1 r (rFix 8 bs r).2.2):=by unfold rVal;rw [if_neg (by omega),if_pos rfl]
   rw [hv] at h ⊢
   simp only at h ⊢
   rw [h]
   refine ⟨by rw [if_neg (by omega),if_neg (by omega)],by rw [if_neg (by omega),if_neg (by omega)],rfl,?_⟩
   have h2:(rFix 8 bs r).2.2=r+8:=by
    unfold rFix at h ⊢
    split
    ·rename_i hx;rw [if_pos hx] at h;simp at h
    ·rfl
   simp only [pTail,plc,if_true,List.length_append,h2]
   rw [if_neg (by omega),length_fixN]
   omega
  ·have hv:rVal 2 bs r=(0,if (rCount 8192 bs r).2.1=0 then (rCount 8192 bs r).1 else [],(rCount 8192 bs r).2.1,plc (rCount 8192 bs r).2.1 r (rCount 8192 bs r).2.2):=by unfold rVal;rw [if_neg (by omega),if_neg (by omega),if_pos rfl]
   rw [hv] at h ⊢
   simp only at h ⊢
   rw [h]
   simp only [if_true,plc]
   have hc:(rCount 8192 bs r).1.length<=8192/\r+(putN (rCount 8192 bs r).1.length++(rCount 8192 bs r).1).length<=(rCount 8192 bs r).2.2:=by
    unfold rCount at h ⊢
    by_cases g1:(M.get (bs.drop r)).2.2 ≠ 0
    ·rw [if_pos g1] at h;exact absurd h g1
    ·rw [if_neg g1] at h ⊢
     by_cases g2:(8192:Int) < 0\/(8192:Int) < ((M.get (bs.drop r)).1:Int)
     ·rw [if_pos g2] at h;simp at h
     ·rw [if_neg g2] at h ⊢
      have hl:=put_get_len _ (show (M.get (bs.drop r)).2.2=0 by omega)
      have hgf:=M.get_facts (bs.drop r)
      by_cases g3:((bs.length - (r+(M.get (bs.drop r)).2.1):Nat):Int) < ((M.get (bs.drop r)).1:Int)
      ·rw [rTake_short (by omega) g3] at h;simp at h
      ·rw [rTake_ok (by omega) g3]
       simp only [Int.toNat_natCast]
       have hlen:((bs.drop (r+(M.get (bs.drop r)).2.1)).take (M.get (bs.drop r)).1).length=(M.get (bs.drop r)).1:=by rw [List.length_take,List.length_drop];omega
       rw [List.length_append,hlen]
       omega
   refine ⟨by rw [if_neg (by omega),if_neg (by omega)],trivial,trivial,?_⟩
   have ht:pTail 2 0 (rCount 8192 bs r).1=putN (rCount 8192 bs r).1.length++(rCount 8192 bs r).1:=rfl
   rw [ht,List.length_append]
   omega
  ·have hv:rVal 5 bs r=(if (rFix 4 bs r).2.1=0 then (rFix 4 bs r).1 else 0,[],(rFix 4 bs r).2.1,plc (rFix 4 bs r).2.1 r (rFix 4 bs r).2.2):=by unfold rVal;rw [if_neg (by omega),if_neg (by omega),if_neg (by omega)]
   have h5:=rFix4_lt bs r
   rw [hv] at h h5 ⊢
   simp only at h h5 ⊢
   have h2:(rFix 4 bs r).2.2=r+4:=by
    unfold rFix at h ⊢
    split
    ·rename_i hx;rw [if_pos hx] at h;simp at h
    ·rfl
   rw [h] at h5 ⊢
   simp only [if_true] at h5 ⊢
   refine ⟨by rw [if_neg (by omega),if_neg (by omega)],by rw [if_neg (by omega)];omega,rfl,?_⟩
   have ht:∀ n xs,pTail 5 n xs=fixN 4 (n % 4294967296):=fun _ _=>rfl
   rw [ht,List.length_append,length_fixN,h2]
   simp only [plc,if_true]
   omega
 ·rw [if_neg h0] at h
  exact absurd h h0
theorem again_all (bs:List UInt8):∀ (fu p:Nat) (fs:List FV),p<=bs.length->(flds bs fu p).2.1=0->fvAll fs (flds bs fu p).1->(∀ f ∈ fs,pErrF f=0/\bareN f=f.n/\bareX f=f.s.xs)/\p+(fs.flatMap pBF).length<=bs.length
 | 0,p,fs,hp,_,hf=>by
  cases fs with
  | nil=>simpa using hp
  | cons f fs=>exact hf.elim
 | fu+1,p,fs,hp,he,hf=>by
  rw [flds] at he hf
  by_cases h1:bs.length<=p
  ·rw [if_pos h1] at hf
   cases fs with
   | nil=>simpa using hp
   | cons f fs=>exact hf.elim
  ·rw [if_neg h1] at he hf
   by_cases h2:(rOne bs p).e=0
   ·rw [if_pos h2] at he hf
    simp only at he hf
    cases fs with
    | nil=>exact hf.elim
    | cons f fs =>
     have hn:=(rOne_facts bs p hp).1 h2
     obtain ⟨a1,a2,a3,a4⟩:=again_one f bs p hp h2 hf.1
     obtain ⟨b1,b2⟩:=again_all bs fu (rOne bs p).nx fs hn.2.1 he hf.2
     refine ⟨fun g hg=>?_,?_⟩
     ·rcases List.mem_cons.1 hg with rfl | hg
      ·exact ⟨a1,a2,a3⟩
      ·exact b1 g hg
     ·rw [List.flatMap_cons,List.length_append];omega
   ·rw [if_neg h2] at he
    exact absurd he h2
def At (bs:List UInt8):List (RF × Nat)->Nat->Prop
 | [],_=>True
 | r :: rs,p=>r=(rOne bs p,p)/\p < bs.length/\(rOne bs p).e=0/\At bs rs (rOne bs p).nx
end Go.Proofs.YtpmfdlghckfgiaaGreat
