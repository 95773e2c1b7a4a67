/- Opening the arguments of a statement: wha · The table of all fields: plain mathematic -/
import Derived.Test.YtpmfdlghckfgiaaGreatG0
import Derived.ProofKit
import Derived.OpenShut
import Derived.ChangeOld
import Derived.Below
import Derived.Test.YtpmfdlghckfgiaaGreatM2
import Derived.Deep.RegionWith
import Derived.Deep.RegionHeld3
import Derived.Deep.QuietTactic
import Derived.BigQuiet
import Derived.WalkKit
import Derived.Test.YtpmfdlghckfgiaaGreatProg
set_option linter.unusedVariables false
set_option maxRecDepth 100000
set_option maxHeartbeats 16000000
namespace Go.Proofs.YtpmfdlghckfgiaaGreat
open Go.ChangeShapes Go.WideShapes Go.ChangeAt Go.RowKit
theorem wf_i64 {n:Int} (h:(Lit.int .i64 n).wf=true) : -9223372036854775808<=n/\n<=9223372036854775807:=by simpa [Lit.wf,IntKind.min,IntKind.max,IntKind.signed,IntKind.bits] using h
theorem wf_u8 {n:Int} (h:(Lit.int .u8 n).wf=true):0<=n/\n<=255:=by simpa [Lit.wf,IntKind.min,IntKind.max,IntKind.signed,IntKind.bits] using h
section
variable {H:Type} {enc:TypeId × Value->H} {P:Program} {W:World} {base:Nat} {spare:Nat->Bool} {held:Bool} {t e:TypeId} {A:Option Addr} {len cap:Nat} {d:DataW H} {p:List MemPlace}
theorem ints_of {k:IntKind} (ht:P.underlying t=some (.slice e)) (he:P.underlying e=some (.int k)) (hc:P.cellsOf e=1) (h:DataW.Trod enc P W base spare held t (.slice A len cap) d p) :
  ∃ zs:List Int,zs.length=len/\(∀ n ∈ zs,(Lit.int k n).wf=true)/\Sl W A cap (zs.map (Value.int k)):=by
 obtain ⟨fuel,hf⟩:=h
 rcases open_ints ht he hc hf with ⟨hcs,_⟩ | ⟨x,l,c,zs,hcs,_,hl,hm,hz,_,hcell,hwz⟩
 ·simp [Value.cells] at hcs
  obtain ⟨rfl,rfl,rfl⟩:=hcs
  exact ⟨[],rfl,by simp,Sl.nil_ W⟩
 ·simp [Value.cells] at hcs
  obtain ⟨rfl,rfl,rfl⟩:=hcs
  have hzl:len<=zs.length:=by rw [hz];split <;> omega
  refine ⟨zs.take len,by rw [List.length_take];omega,fun n hn=>hwz n (List.mem_of_mem_take hn),⟨by simp;omega,hm,(fun h=>by cases h),fun j u hj=>?_⟩⟩
  rw [List.getElem?_map,List.getElem?_take] at hj
  split at hj
  ·rename_i hjl
   have hc:=hcell j (by omega)
   rw [List.getElem?_eq_getElem (by omega)] at hj
   simp only [Option.map_some,Option.some.injEq] at hj
   rw [List.getD_eq_getElem?_getD,List.getElem?_eq_getElem (by omega),Option.getD_some,hj] at hc
   have hlt:=World.block_lt_of_cell? W _ hc
   obtain ⟨b,off,spot⟩:=x
   cases spot with
   | none=>exact ⟨b,off,rfl,by rwa [addr_add] at hlt,by rwa [addr_add] at hc⟩
   | some s =>
    have h0:=hcell 0 (by omega)
    simp [World.cell?,Addr.add] at h0
    split at h0 <;> simp at h0
  ·cases hj
theorem bytes_of (ht:P.underlying t=some (.slice e)) (he:P.underlying e=some (.int .u8)) (hc:P.cellsOf e=1) (h:DataW.Trod enc P W base spare held t (.slice A len cap) d p) :
  ∃ bs:List UInt8,bs.length=len/\Sl W A cap (bs.map bv):=by
 obtain ⟨zs,hl,hw,hs⟩:=ints_of ht he hc h
 refine ⟨zs.map fun z=>b8 z.toNat,by simpa using hl,?_⟩
 have e:(zs.map fun z=>b8 z.toNat).map bv=zs.map (Value.int .u8):=by
  rw [List.map_map]
  apply List.map_congr_left
  intro z hz
  have:=wf_u8 (hw z hz)
  simp only [Function.comp]
  rw [bv_b8 _ (by omega),Int.toNat_of_nonneg this.1]
 rw [e];exact hs
end
end Go.Proofs.YtpmfdlghckfgiaaGreat
namespace Go.Proofs.YtpmfdlghckfgiaaGreat
open Go.ChangeShapes Go.WideShapes Go.ChangeAt Go.RowKit
def Opens (P:Program) (W:World) (t:TypeId) {α:Type} (enc:α->List Value) (ok:α->Prop):Prop :=
 ∀ (H:Type) (en:TypeId × Value->H) (base:Nat) (spare:Nat->Bool) (held:Bool) (fuel:Nat) (cs:List Value) (x:DataW H × List MemPlace),
  DataW.trod en P W base spare held fuel t cs=some x->∃ a:α,cs=enc a/\ok a
structure SlN (w:World) (A:Option Addr) (n c size:Nat) (flat:List Value):Prop where
 len:flat.length=n * size
 cap:n<=c
 small:c<=9223372036854775807
 nil0:A=none->c=0
 rd:Rd w A flat
theorem SlN.below {w w':World} {A:Option Addr} {n c size:Nat} {xs:List Value} (h:SlN w A n c size xs) (hb:Below w.heap.size w w'):SlN w' A n c size xs:=⟨h.len,h.cap,h.small,h.nil0,h.rd.below hb⟩
structure SlV (α:Type) where
 A:Option Addr
 c:Nat
 xs:List α
section
variable {P:Program} {W:World} {t e:TypeId} {α β:Type}
theorem Opens.imp {enc:α->List Value} {ok ok':α->Prop} (h:Opens P W t enc ok) (hi:∀ a,ok a->ok' a):Opens P W t enc ok' :=
 fun H en base spare held fuel cs x hx=>let ⟨a,hc,ho⟩:=h H en base spare held fuel cs x hx;⟨a,hc,hi a ho⟩
theorem Opens.map {enc:α->List Value} {ok:α->Prop} {enc':β->List Value} {ok':β->Prop} (h:Opens P W t enc ok) (f:α->β) (hi:∀ a,ok a->enc a=enc' (f a)/\ok' (f a)):Opens P W t enc' ok' :=
 fun H en base spare held fuel cs x hx=>let ⟨a,hc,ho⟩:=h H en base spare held fuel cs x hx;⟨f a,hc.trans (hi a ho).1,(hi a ho).2⟩
theorem flatMap_get {γ:Type} (enc:γ->List Value) (size:Nat):∀ (xs:List γ) (i j:Nat) (hi:i < xs.length),(∀ x ∈ xs,(enc x).length=size)->j < size ->
  (xs.flatMap enc)[i * size+j]? = (enc xs[i])[j]?
 | [],i,_,hi,_,_=>by simp at hi
 | x :: xs,0,j,_,h,hj=>by
  rw [List.flatMap_cons,Nat.zero_mul,Nat.zero_add,List.getElem?_append_left (by rw [h x (by simp)];exact hj)];rfl
 | x :: xs,i+1,j,hi,h,hj=>by
  have hx:=h x (by simp)
  rw [List.flatMap_cons,List.getElem?_append_right (by rw [hx,Nat.add_mul];omega),hx,
   show (i+1) * size+j - size=i * size+j from by rw [Nat.add_mul];omega,
   flatMap_get enc size xs i j (by simpa using hi) (fun y hy=>h y (by simp [hy])) hj]
  simp
theorem flatMap_length {γ:Type} (enc:γ->List Value) (size:Nat):∀ (xs:List γ),(∀ x ∈ xs,(enc x).length=size)->(xs.flatMap enc).length=xs.length * size
 | [],_=>by simp
 | x :: xs,h=>by rw [List.flatMap_cons,List.length_append,h x (by simp),flatMap_length enc size xs (fun y hy=>h y (by simp [hy])),List.length_cons,Nat.add_mul];omega
end
end Go.Proofs.YtpmfdlghckfgiaaGreat
namespace Go.Proofs.YtpmfdlghckfgiaaGreat
open Go.RowKit
theorem mk_facts (n x:Int) (h0:0<=x) (h1:x<=255):0<=(mk n x).1/\(mk n x).1<=4294967295/\0<=(mk n x).2/\(mk n x).2<=7:=by
 unfold mk
 split
 ·simp
 ·split
  ·simp
  ·rename_i h h'
   have:=wireB_lt (x:=x) (by simpa using h')
   simp;omega
end Go.Proofs.YtpmfdlghckfgiaaGreat
namespace Go.Proofs.YtpmfdlghckfgiaaGreat
open Go.RowKit
theorem putN_size (n:Nat):(putN n).length=sizeN n:=by
 induction n using Nat.strongRecOn with
 | _ n ih =>
  rw [sizeN]
  by_cases h:n < 128
  ·rw [if_pos h,putN_small h];rfl
  ·rw [if_neg h,putN_big h,List.length_cons,ih (n / 128) (by omega)];omega
end Go.Proofs.YtpmfdlghckfgiaaGreat
namespace Go.Proofs.YtpmfdlghckfgiaaGreat
open Go.RowKit
theorem put_getF:∀ (b:List UInt8) (i acc:Nat),i<=9->acc < 128 ^ i->(M.getF i acc b).2.2=0 ->
  ∃ v,(M.getF i acc b).1=acc+v * 128 ^ i/\i+sizeN v<=(M.getF i acc b).2.1/\(i+sizeN v=(M.getF i acc b).2.1->putN v=b.take ((M.getF i acc b).2.1 - i))
 | [],i,acc,_,_,h=>by simp [M.getF] at h
 | x :: r,i,acc,hi,ha,h=>by
  have hx:=x.toNat_lt
  rw [M.getF] at h ⊢
  by_cases h9:i=9
  ·subst h9
   rw [if_pos rfl] at h ⊢
   by_cases h1:128<=x.toNat
   ·rw [if_pos h1] at h;simp at h
   ·by_cases h2:1 < x.toNat
    ·rw [if_neg h1,if_pos h2] at h;simp at h
    ·rw [if_neg h1,if_neg h2]
     refine ⟨x.toNat,rfl,by rw [sizeN,if_pos (by omega)];simp,fun _=>?_⟩
     rw [putN_small (by omega),b8_self];rfl
  ·rw [if_neg h9] at h ⊢
   by_cases h1:x.toNat < 128
   ·rw [if_pos h1]
    refine ⟨x.toNat,rfl,by rw [sizeN,if_pos h1];simp,fun _=>?_⟩
    rw [putN_small h1,b8_self];simp
   ·rw [if_neg h1] at h ⊢
    obtain ⟨v,hv,hs,hp⟩:=put_getF r (i+1) _ (by omega) (M.get_acc ha hx) h
    by_cases hv0:v=0
    ·subst hv0
     refine ⟨x.toNat - 128,by rw [hv];simp,?_,fun he=>?_⟩
     ·rw [sizeN,if_pos (by omega)];rw [sizeN,if_pos (by omega)] at hs;omega
     ·rw [sizeN,if_pos (by omega)] at he hs;omega
    ·have hsz:sizeN (x.toNat - 128+v * 128)=1+sizeN v:=by
      rw [sizeN,if_neg (by omega),show (x.toNat - 128+v * 128) / 128=v from by omega]
     refine ⟨x.toNat - 128+v * 128,?_,by rw [hsz];omega,fun he=>?_⟩
     ·rw [hv,Nat.pow_succ,Nat.add_mul,Nat.mul_assoc,Nat.mul_comm 128 (128 ^ i)];omega
     ·rw [hsz] at he
      have:=hp (by omega)
      rw [putN_big (by omega),show (x.toNat - 128+v * 128) / 128=v from by omega,this,show (x.toNat - 128+v * 128) % 128+128=x.toNat from by omega,b8_self]
      have hk:=(M.getF_facts r (i+1) _ (by omega) (M.get_acc ha hx)).1 h
      obtain ⟨j,hj⟩:∃ j,(M.getF (i+1) (acc+(x.toNat - 128) * 128 ^ i) r).2.1 - i=j+1:=⟨(M.getF (i+1) (acc+(x.toNat - 128) * 128 ^ i) r).2.1 - i - 1,by omega⟩
      rw [hj,List.take_succ_cons,show (M.getF (i+1) (acc+(x.toNat - 128) * 128 ^ i) r).2.1 - (i+1)=j from by omega]
end Go.Proofs.YtpmfdlghckfgiaaGreat
namespace Go.Proofs.YtpmfdlghckfgiaaGreat
open Go.RowKit
end Go.Proofs.YtpmfdlghckfgiaaGreat
namespace Go.Proofs.YtpmfdlghckfgiaaGreat
open Go.RowKit
def flat (ns:List Nat):List UInt8:=ns.flatMap putN
end Go.Proofs.YtpmfdlghckfgiaaGreat
namespace Go.Proofs.YtpmfdlghckfgiaaGreat
open Go.RowKit
end Go.Proofs.YtpmfdlghckfgiaaGreat
namespace Go.Proofs.YtpmfdlghckfgiaaGreat
open Go.RowKit
theorem mk_ok_inv {n x:Int} (h:(mk n x).2=0):1<=n/\n<=536870911/\wireB x=true/\mk n x=(8 * n+x,0):=by
 unfold mk at h ⊢
 split
 ·rename_i h';rw [if_pos h'] at h;simp at h
 ·rename_i h';rw [if_neg h'] at h
  split
  ·rename_i h'';rw [if_pos h''] at h;simp at h
  ·rename_i h'';exact ⟨by omega,by omega,by simpa using h'',rfl⟩
theorem spl_ok_inv {n:Int} (h:(spl n).2.2=0):1<=n / 8/\n / 8<=536870911/\wireB (n % 8)=true/\spl n=(n / 8,n % 8,0):=by
 unfold spl at h ⊢
 split
 ·rename_i h';rw [if_pos h'] at h;simp at h
 ·rename_i h';rw [if_neg h'] at h
  split
  ·rename_i h'';rw [if_pos h''] at h;simp at h
  ·rename_i h'';exact ⟨by omega,by omega,by simpa using h'',rfl⟩
theorem mk_spl {n:Int} (h:(spl n).2.2=0):mk (spl n).1 (spl n).2.1=(n,0):=by
 obtain ⟨h1,h2,hw,he⟩:=spl_ok_inv h
 rw [he,mk_ok h1 h2 hw]
 congr 1;omega
theorem rfix_at (n:Nat) (k:Nat) (kk:Int) (w:World) (hkk:kk=(k:Int)) (h64:n<=18446744073709551615) (hk:k<=1000) :
  Calls Tryz.prog 63 #[.int .u64 (n:Int),.int .i64 kk] w fun e W'=>∃ A c,e=.returned (.slice A k c)/\Sl W' A c ((fixN k n).map bv)/\Below w.heap.size w W':=by
 subst hkk
 have:=rfix_any n k w h64 hk
 rwa [length_fixN] at this
end Go.Proofs.YtpmfdlghckfgiaaGreat
namespace Go.Proofs.YtpmfdlghckfgiaaGreat
open Go.RowKit
theorem Sl.of_own' {w:World} {base e:Nat} {A:Option Addr} {n m c:Nat} {xs:List Value} (h:w.ownsRow base e 1 (.slice A n c) m xs):Sl w A c xs:=by
 obtain ⟨A',c',hv,_,hs⟩:=Sl.of_own h
 injection hv with h1 h2 h3
 subst h1;subst h3;exact hs
theorem SlN.of_own {w:World} {base e size n:Nat} {v:Value} {xs:List Value} (hsz:0 < size) (h:w.ownsRow base e size v n xs):∃ A c,v=.slice A n c/\SlN w A n c size xs:=by
 rcases h.2 with ⟨rfl,rfl⟩ | ⟨g,cap,cur,rfl,hb,hg,hnc,hcm,hcs,htake⟩
 ·have hx:xs=[]:=List.eq_nil_of_length_eq_zero (by simpa using h.1)
  subst hx
  exact ⟨none,0,rfl,⟨by simp,by omega,by omega,fun _=>rfl,Rd.nil_ w _⟩⟩
 ·refine ⟨_,cap,rfl,⟨h.1,hnc,hcm,(fun h=>by cases h),fun k u hk=>⟨g,0,rfl,(Array.getElem?_eq_some_iff.1 hg).1,?_⟩⟩⟩
  have:=h.cells (g:=g) rfl k u hk
  rwa [addr_add] at this
end Go.Proofs.YtpmfdlghckfgiaaGreat
set_option linter.unusedVariables false
set_option maxRecDepth 100000
set_option maxHeartbeats 16000000
namespace Go.Proofs.YtpmfdlghckfgiaaGreat
structure SRow where
 kind:Nat
 since:Nat
 num:Nat
 typ:Nat
 slot:Nat
deriving DecidableEq,Inhabited
def ROWS:List SRow:=[⟨1,1,1,1,0⟩,⟨1,1,2,1,1⟩,⟨1,1,3,7,0⟩,⟨2,1,1,1,0⟩,⟨2,1,2,6,1⟩,⟨2,2,3,7,0⟩,⟨3,1,1,7,0⟩,⟨3,1,2,9,1⟩,⟨3,3,3,4,0⟩,⟨4,1,1,7,0⟩,⟨4,1,2,2,0⟩,⟨4,2,3,7,1⟩,⟨4,3,4,10,0⟩,⟨5,1,1,2,0⟩,⟨5,1,2,1,1⟩,⟨5,1,3,7,0⟩,⟨5,1,4,1,2⟩,⟨5,1,5,4,3⟩,⟨5,2,6,2,4⟩,⟨5,3,7,10,0⟩,⟨6,1,1,2,0⟩,⟨6,1,2,1,1⟩,⟨6,1,3,1,2⟩,⟨6,1,4,4,3⟩,⟨6,1,5,1,4⟩,⟨6,2,6,8,0⟩,⟨6,3,7,3,5⟩,⟨7,1,1,2,0⟩,⟨7,2,2,8,0⟩,⟨8,2,1,2,0⟩,⟨9,1,1,2,0⟩,⟨9,1,2,1,1⟩,⟨9,1,3,1,2⟩,⟨9,2,4,10,0⟩,⟨9,3,5,5,3⟩,⟨9,3,6,3,4⟩,⟨10,1,1,1,0⟩,⟨10,1,2,8,0⟩,⟨10,2,3,2,1⟩,⟨10,3,4,6,2⟩]
def rowAt (j:Nat):SRow:=ROWS.getD j default
theorem rowAt_mem (j:Nat) (h:j < 40):rowAt j ∈ ROWS:=by
 have h2:j < ROWS.length:=h
 unfold rowAt
 rw [List.getD_eq_getElem?_getD,List.getElem?_eq_getElem h2]
 exact List.getElem_mem h2
theorem rows_all (p:SRow->Bool) (h:ROWS.all p=true) (j:Nat) (hj:j < 40):p (rowAt j)=true:=List.all_eq_true.1 h _ (rowAt_mem j hj)
theorem rowAt_ok (j:Nat) (hj:j < 40):1<=(rowAt j).kind/\(rowAt j).kind<=10/\1<=(rowAt j).since/\(rowAt j).since<=3/\1<=(rowAt j).num/\(rowAt j).num<=7/\1<=(rowAt j).typ/\(rowAt j).typ<=10/\(rowAt j).slot<=5:=by
 have h:=rows_all (fun r=>decide (1<=r.kind/\r.kind<=10/\1<=r.since/\r.since<=3/\1<=r.num/\r.num<=7/\1<=r.typ/\r.typ<=10/\r.slot<=5)) (by decide) j hj
 simpa using h
def kn (v:Int):List SRow:=if 3 < v then [] else ROWS.filter fun r=>decide ((r.since:Int)<=v)
def cnt (v:Int) (j:Nat):Nat:=((ROWS.take j).filter fun r=>decide ((r.since:Int)<=v)).length
theorem take_row (j:Nat) (hj:j < 40):ROWS.take (j+1)=ROWS.take j++[rowAt j]:=by
 have h2:j < ROWS.length:=hj
 rw [List.take_succ_eq_append_getElem h2]
 congr 2
 unfold rowAt
 rw [List.getD_eq_getElem?_getD,List.getElem?_eq_getElem h2]
 rfl
theorem cnt_has (v:Int) (j:Nat) (hj:j < 40) (h:((rowAt j).since:Int)<=v):cnt v (j+1)=cnt v j+1:=by
 unfold cnt
 rw [take_row j hj,List.filter_append,List.filter_cons_of_pos (by simpa using h),List.length_append]
 rfl
theorem cnt_not (v:Int) (j:Nat) (hj:j < 40) (h:¬ ((rowAt j).since:Int)<=v):cnt v (j+1)=cnt v j:=by
 unfold cnt
 rw [take_row j hj,List.filter_append,List.filter_cons_of_neg (by simpa using h),List.filter_nil,List.append_nil]
theorem kn_in (v:Int) (hv:¬ 3 < v):kn v=ROWS.filter fun r=>decide ((r.since:Int)<=v):=by unfold kn;rw [if_neg hv]
theorem kn_out (v:Int) (hv:3 < v):kn v=[]:=by unfold kn;rw [if_pos hv]
theorem cnt_all (v:Int) (hv:¬ 3 < v):cnt v 40=(kn v).length:=by
 unfold cnt
 rw [kn_in v hv]
 rfl
theorem kn_split (v:Int) (hv:¬ 3 < v) (j:Nat) (hj:j < 40) (h:((rowAt j).since:Int)<=v):(kn v)[cnt v j]? = some (rowAt j):=by
 have hsp:ROWS=ROWS.take j++(rowAt j :: ROWS.drop (j+1)):=by
  have h1:=List.take_append_drop (j+1) ROWS
  rw [take_row j hj,List.append_assoc] at h1
  exact h1.symm
 have h2:kn v=(ROWS.take j).filter (fun r=>decide ((r.since:Int)<=v))++(rowAt j :: (ROWS.drop (j+1)).filter fun r=>decide ((r.since:Int)<=v)):=by
  rw [kn_in v hv]
  conv=>lhs;rw [hsp]
  rw [List.filter_append,List.filter_cons_of_pos (by simpa using h)]
 rw [h2]
 unfold cnt
 rw [List.getElem?_append_right (Nat.le_refl _)]
 simp
theorem cnt_lt (v:Int) (hv:¬ 3 < v) (j:Nat) (hj:j < 40) (h:((rowAt j).since:Int)<=v):cnt v j < (kn v).length:=(List.getElem?_eq_some_iff.1 (kn_split v hv j hj h)).1
theorem kn_mem (v:Int) {r:SRow} (h:r ∈ kn v):r ∈ ROWS:=by
 unfold kn at h
 split at h
 ·simp at h
 ·exact (List.mem_filter.1 h).1
theorem kn_len (v:Int):(kn v).length<=40:=by
 unfold kn
 split
 ·simp
 ·exact List.length_filter_le _ _
def ofL (k:Int) (v:Int):List SRow:=(kn v).filter fun r=>decide ((r.kind:Int)=k)
end Go.Proofs.YtpmfdlghckfgiaaGreat
namespace Go.Proofs.YtpmfdlghckfgiaaGreat
open Go.RowKit Go.Shelf
attribute [local go_sem] Oper.semAt_some
def LIT:Array Value:=#[.int .u8 1,.int .i64 1,.int .i64 1,.int .i64 1,.int .i64 0,.int .u8 1,.int .i64 1,.int .i64 2,.int .i64 1,.int .i64 1,.int .u8 1,.int .i64 1,.int .i64 3,.int .i64 7,.int .i64 0,.int .u8 2,.int .i64 1,.int .i64 1,.int .i64 1,.int .i64 0,.int .u8 2,.int .i64 1,.int .i64 2,.int .i64 6,.int .i64 1,.int .u8 2,.int .i64 2,.int .i64 3,.int .i64 7,.int .i64 0,.int .u8 3,.int .i64 1,.int .i64 1,.int .i64 7,.int .i64 0,.int .u8 3,.int .i64 1,.int .i64 2,.int .i64 9,.int .i64 1,.int .u8 3,.int .i64 3,.int .i64 3,.int .i64 4,.int .i64 0,.int .u8 4,.int .i64 1,.int .i64 1,.int .i64 7,.int .i64 0,.int .u8 4,.int .i64 1,.int .i64 2,.int .i64 2,.int .i64 0,.int .u8 4,.int .i64 2,.int .i64 3,.int .i64 7,.int .i64 1,.int .u8 4,.int .i64 3,.int .i64 4,.int .i64 10,.int .i64 0,.int .u8 5,.int .i64 1,.int .i64 1,.int .i64 2,.int .i64 0,.int .u8 5,.int .i64 1,.int .i64 2,.int .i64 1,.int .i64 1,.int .u8 5,.int .i64 1,.int .i64 3,.int .i64 7,.int .i64 0,.int .u8 5,.int .i64 1,.int .i64 4,.int .i64 1,.int .i64 2,.int .u8 5,.int .i64 1,.int .i64 5,.int .i64 4,.int .i64 3,.int .u8 5,.int .i64 2,.int .i64 6,.int .i64 2,.int .i64 4,.int .u8 5,.int .i64 3,.int .i64 7,.int .i64 10,.int .i64 0,.int .u8 6,.int .i64 1,.int .i64 1,.int .i64 2,.int .i64 0,.int .u8 6,.int .i64 1,.int .i64 2,.int .i64 1,.int .i64 1,.int .u8 6,.int .i64 1,.int .i64 3,.int .i64 1,.int .i64 2,.int .u8 6,.int .i64 1,.int .i64 4,.int .i64 4,.int .i64 3,.int .u8 6,.int .i64 1,.int .i64 5,.int .i64 1,.int .i64 4,.int .u8 6,.int .i64 2,.int .i64 6,.int .i64 8,.int .i64 0,.int .u8 6,.int .i64 3,.int .i64 7,.int .i64 3,.int .i64 5,.int .u8 7,.int .i64 1,.int .i64 1,.int .i64 2,.int .i64 0,.int .u8 7,.int .i64 2,.int .i64 2,.int .i64 8,.int .i64 0,.int .u8 8,.int .i64 2,.int .i64 1,.int .i64 2,.int .i64 0,.int .u8 9,.int .i64 1,.int .i64 1,.int .i64 2,.int .i64 0,.int .u8 9,.int .i64 1,.int .i64 2,.int .i64 1,.int .i64 1,.int .u8 9,.int .i64 1,.int .i64 3,.int .i64 1,.int .i64 2,.int .u8 9,.int .i64 2,.int .i64 4,.int .i64 10,.int .i64 0,.int .u8 9,.int .i64 3,.int .i64 5,.int .i64 5,.int .i64 3,.int .u8 9,.int .i64 3,.int .i64 6,.int .i64 3,.int .i64 4,.int .u8 10,.int .i64 1,.int .i64 1,.int .i64 1,.int .i64 0,.int .u8 10,.int .i64 1,.int .i64 2,.int .i64 8,.int .i64 0,.int .u8 10,.int .i64 2,.int .i64 3,.int .i64 2,.int .i64 1,.int .u8 10,.int .i64 3,.int .i64 4,.int .i64 6,.int .i64 2]
def rowV (r:SRow):Value:=.agg #[.int .u8 (r.kind:Nat),.int .i64 (r.since:Nat),.int .i64 (r.num:Nat),.int .i64 (r.typ:Nat),.int .i64 (r.slot:Nat)]
theorem lit_idx (W:World):(j:Nat)->(h:j < 40)->(Instr.index 149 (.agg LIT) (.int .i64 (j:Nat))).run Tryz.prog W=.ok (rowV (rowAt j)) W
 | 0,_=>by as_aux_lemma=>kernel_rfl
 | 1,_=>by as_aux_lemma=>kernel_rfl
 | 2,_=>by as_aux_lemma=>kernel_rfl
 | 3,_=>by as_aux_lemma=>kernel_rfl
 | 4,_=>by as_aux_lemma=>kernel_rfl
 | 5,_=>by as_aux_lemma=>kernel_rfl
 | 6,_=>by as_aux_lemma=>kernel_rfl
 | 7,_=>by as_aux_lemma=>kernel_rfl
 | 8,_=>by as_aux_lemma=>kernel_rfl
 | 9,_=>by as_aux_lemma=>kernel_rfl
 | 10,_=>by as_aux_lemma=>kernel_rfl
 | 11,_=>by as_aux_lemma=>kernel_rfl
 | 12,_=>by as_aux_lemma=>kernel_rfl
 | 13,_=>by as_aux_lemma=>kernel_rfl
 | 14,_=>by as_aux_lemma=>kernel_rfl
 | 15,_=>by as_aux_lemma=>kernel_rfl
 | 16,_=>by as_aux_lemma=>kernel_rfl
 | 17,_=>by as_aux_lemma=>kernel_rfl
 | 18,_=>by as_aux_lemma=>kernel_rfl
 | 19,_=>by as_aux_lemma=>kernel_rfl
 | 20,_=>by as_aux_lemma=>kernel_rfl
 | 21,_=>by as_aux_lemma=>kernel_rfl
 | 22,_=>by as_aux_lemma=>kernel_rfl
 | 23,_=>by as_aux_lemma=>kernel_rfl
 | 24,_=>by as_aux_lemma=>kernel_rfl
 | 25,_=>by as_aux_lemma=>kernel_rfl
 | 26,_=>by as_aux_lemma=>kernel_rfl
 | 27,_=>by as_aux_lemma=>kernel_rfl
 | 28,_=>by as_aux_lemma=>kernel_rfl
 | 29,_=>by as_aux_lemma=>kernel_rfl
 | 30,_=>by as_aux_lemma=>kernel_rfl
 | 31,_=>by as_aux_lemma=>kernel_rfl
 | 32,_=>by as_aux_lemma=>kernel_rfl
 | 33,_=>by as_aux_lemma=>kernel_rfl
 | 34,_=>by as_aux_lemma=>kernel_rfl
 | 35,_=>by as_aux_lemma=>kernel_rfl
 | 36,_=>by as_aux_lemma=>kernel_rfl
 | 37,_=>by as_aux_lemma=>kernel_rfl
 | 38,_=>by as_aux_lemma=>kernel_rfl
 | 39,_=>by as_aux_lemma=>kernel_rfl
 | j+40,h=>absurd h (by omega)
theorem wpListIn_build_lit {F:Fence} {n:Nat} {P:Program} {w:World} {ops:Array Oper} {rest:List Oper} {o:Oper} {a:Act} {Q:Exit->Act->World->Prop} (hgd:o.guard=none) (t:TypeId) (parts:Array (Nat × Operand)) (ho:o.op=.build t parts)
  (v:Value) (hrun:(Instr.build t (parts.map fun (i,x)=>(i,a.eval x))).run P w=.ok v w) (h:wpListIn F n P ops Q rest (a.put o.dst v) w):wpListIn F n P ops Q (o :: rest) a w:=by
 refine wpListIn_plain hgd fun K hK=>?_
 unfold Oper.wpIn
 refine ⟨?_,?_⟩
 ·simp [Oper.about,ho]
 ·rw [Oper.semAt_plain F _ _ (by rw [ho];intro c hc';cases hc')]
  simp only [execOp,ho]
  rw [Sem.run_bind,hrun]
  exact hK _ _ h
theorem rows1_in (m:Nat) (hm:1<=m) (l:Nat) (J:Nat->World->Prop) (Jx:World->Prop) (hJn:∀ j W W',J j W->Chg (fun _=>False) W W'->J j W')
  (hY:∀ j W,j < 40->J j W->YieldAt Fence.wide (m - 1) Tryz.prog l #[rowV (rowAt j)] W fun e W'=>(e=.returned (.bool true)/\J (j+1) W')\/(e=.returned (.bool false)/\Jx W'))
  (W:World) (h0:J 0 W) :
  CallsIn Fence.wide m Tryz.prog 91 #[.func (.yield l) #[] #[]] W fun e W'=>(∃ v,e=.returned v)/\(J 40 W'\/Jx W'):=by
 have hidx:=fun W j h=>lit_idx W j h
 have HY:=hid hY
 have HJN:=hid hJn
 have HI:=hid hidx
 clear hY hJn hidx
 refine callsIn_of_wp Tryz.func91 rfl trivial ?_ rfl
 simp only [Tryz.ntmps91,List.size_toArray,List.length_cons,List.length_nil,Nat.reduceAdd,Nat.reduceSub,Array.replicate_succ,Array.replicate_zero,List.push_toArray,List.append_toArray,List.nil_append,List.cons_append]
 gi_wp2_with (refine wpListIn_build_lit rfl 149 _ rfl (.agg LIT) (by as_aux_lemma=>kernel_rfl) ?_)
 gi_loopw [3,45] (fun _ p wr=>∃ (j:Nat),p=.int .i64 (j:Int)/\j<=40/\J j wr) (fun _ p _=>40 - (intOf p).toNat)
 case atStart=>exact ⟨0,rfl,by omega,h0⟩
 case round =>
  obtain ⟨j,rfl,hj,hJ⟩:=hrel
  by_cases hlt:j < 40
  ·have hi:=fun W=>HI.out W j hlt
   unfold rowV at hi
   have hy0:=fun (W':World) (hc:Chg (fun _=>False) wr W')=>HY.out j W' hlt (HJN.out j wr W' hJ hc)
   unfold rowV at hy0
   generalize rowAt j=r at *
   obtain ⟨k,si,nu,ty,sl⟩:=r
   simp only at hi hy0
   obtain ⟨fn,tmps,assign,body,hy,hR⟩:=hy0 (wr.alloc (.cells #[.int .u8 (k:Nat),.int .i64 (si:Nat),.int .i64 (nu:Nat),.int .i64 (ty:Nat),.int .i64 (sl:Nat)] 119)) ((Chg.refl _ wr).alloc _)
   clear hy0
   gi_wp2
   refine hR.mono ?_
   rintro e W3 (⟨rfl,hJ3⟩ | ⟨rfl,hJx3⟩)
   ·gi_wp2
    go_roundw
    case rel=>exact ⟨j+1,by go_num,by omega,hJ3⟩
    case measure=>simp [intOf];omega
   ·gi_wp2
    refine bodyPost_ret (results_none rfl _ _ _) rfl ?_
    exact ⟨⟨_,rfl⟩,.inr hJx3⟩
  ·obtain rfl:j=40:=by omega
   gi_wp2
   go_end0
   exact ⟨⟨_,rfl⟩,.inl hJ⟩
end Go.Proofs.YtpmfdlghckfgiaaGreat
