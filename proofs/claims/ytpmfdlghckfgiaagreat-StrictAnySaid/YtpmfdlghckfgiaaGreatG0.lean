/- Plain mathematics of layers 1 and 2: no p · A region that draws its order, by an inva · Loops within which ranges over functions · A region that draws its order, by an inva · A region that draws its order, within a f -/
import Derived.WalkKit
import Derived.WalkSpells
import Derived.WalkLawsBesides
import Derived.Laws.AppendOwnNone
import Derived.Test.YtpmfdlghckfgiaaGreatProg
import Derived.Laws.OwnMore
import Derived.Orders
import Derived.Tactics
import Derived.RangeFuncOwn
import Derived.OwnWalkIn
import Derived.RangeFuncNested
import Derived.RangeFuncBound
import Derived.RangeFuncCalls
import Derived.RangeFuncLeaves
import Derived.LoopNIn
import Derived.TacticsInMore
import Derived.OrdersIn
import Derived.TacticsIn
set_option linter.unusedVariables false
set_option maxRecDepth 100000
set_option maxHeartbeats 16000000
namespace Go.Proofs.YtpmfdlghckfgiaaGreat.M
def getF (i acc:Nat):List UInt8->Nat × Nat × Nat
 | []=>(0,0,4)
 | x :: r =>
  if i=9 then
   if 128<=x.toNat then (0,0,2) else if 1 < x.toNat then (0,0,1) else (acc+x.toNat * 128 ^ 9,10,0)
  else if x.toNat < 128 then (acc+x.toNat * 128 ^ i,i+1,0) else getF (i+1) (acc+(x.toNat - 128) * 128 ^ i) r
def get (b:List UInt8):Nat × Nat × Nat:=getF 0 0 b
theorem pow7 (k:Nat):(128:Nat) ^ k=2 ^ (7 * k):=by rw [Nat.pow_mul]
theorem get_num {k acc y:Nat} (hk:k<=9) (ha:acc < 128 ^ k) (hy:y < 128) (h9:k=9->y<=1) :
  acc+y * 128 ^ k<=18446744073709551615:=by
 by_cases h:k=9
 ·subst h
  have:=h9 rfl
  have h1:y * 128 ^ 9<=1 * 128 ^ 9:=Nat.mul_le_mul_right _ this
  omega
 ·have h8:(128:Nat) ^ k<=128 ^ 8:=Nat.pow_le_pow_right (by omega) (by omega)
  have h1:y * 128 ^ k<=127 * 128 ^ 8:=Nat.mul_le_mul (by omega) h8
  omega
theorem get_wrap {k acc y:Nat} (hk:k<=9) (ha:acc < 128 ^ k) (hy:y < 128) (h9:k=9->y<=1) :
  IntKind.u64.wrap ((acc:Int)+IntKind.u64.wrap ((y:Int) * 2 ^ (7 * k)))=((acc+y * 128 ^ k:Nat):Int):=by
 have h:=get_num hk ha hy h9
 have e:(y:Int) * 2 ^ (7 * k)=((y * 128 ^ k:Nat):Int):=by rw [pow7];simp
 rw [e]
 generalize y * 128 ^ k=z at *
 rw [IntWalk.u64_in (z:Int) (by omega),IntWalk.u64_in _ (by omega)]
 omega
theorem get_wrap9 {acc y:Nat} (ha:acc < 128 ^ 9) (hy:y<=1) :
  IntKind.u64.wrap ((acc:Int)+(y:Int) * 9223372036854775808)=((acc+y * 128 ^ 9:Nat):Int):=by
 rw [IntWalk.u64_in _ (by omega)]
 omega
theorem rget_wrap9 {acc y:Nat} (ha:acc < 128 ^ 9) (hy:y<=1) :
  IntKind.u64.wrap ((acc:Int)+(y:Int) % 128 * 9223372036854775808)=((acc+y * 128 ^ 9:Nat):Int):=by
 rw [show (y:Int) % 128=y from by omega]
 exact get_wrap9 ha hy
theorem rget_wrap {k acc y:Nat} (hk:k < 9) (ha:acc < 128 ^ k) (hy:y < 256) :
  IntKind.u64.wrap ((acc:Int)+IntKind.u64.wrap ((y:Int) % 128 * ((128 ^ k:Nat):Int)))=((acc+y % 128 * 128 ^ k:Nat):Int):=by
 have h:=get_wrap (y:=y % 128) (Nat.le_of_lt hk) ha (by omega) (by omega)
 rw [<-h,pow7]
 simp
theorem get_wrap' {k acc y:Nat} (hk:k < 9) (ha:acc < 128 ^ k) (hy:128<=y) (hy2:y < 256) :
  IntKind.u64.wrap ((acc:Int)+IntKind.u64.wrap (((y:Int) - 128) * 2 ^ (7 * k)))=((acc+(y - 128) * 128 ^ k:Nat):Int):=by
 have h:=get_wrap (y:=y - 128) (Nat.le_of_lt hk) ha (by omega) (by omega)
 rw [<-h,show (y:Int) - 128=((y - 128:Nat):Int) from by omega]
theorem get_acc {k acc y:Nat} (ha:acc < 128 ^ k) (hy:y < 256):acc+(y - 128) * 128 ^ k < 128 ^ (k+1):=by
 rw [Nat.pow_succ]
 have h1:(y - 128) * 128 ^ k<=127 * 128 ^ k:=Nat.mul_le_mul_right _ (by omega)
 omega
theorem getF_at {bs:List UInt8} {k acc:Nat} (h:k < bs.length):getF k acc (bs.drop k) =
  if k=9 then
   if 128<=bs[k].toNat then (0,0,2) else if 1 < bs[k].toNat then (0,0,1) else (acc+bs[k].toNat * 128 ^ 9,10,0)
  else if bs[k].toNat < 128 then (acc+bs[k].toNat * 128 ^ k,k+1,0) else getF (k+1) (acc+(bs[k].toNat - 128) * 128 ^ k) (bs.drop (k+1)):=by
 rw [List.drop_eq_getElem_cons h,getF]
theorem getF_end {bs:List UInt8} {k acc:Nat} (h:bs.length<=k):getF k acc (bs.drop k)=(0,0,4):=by
 rw [List.drop_eq_nil_of_le h,getF]
theorem getF_facts:∀ (b:List UInt8) (i acc:Nat),i<=9->acc < 128 ^ i ->
  ((getF i acc b).2.2=0->i+1<=(getF i acc b).2.1/\(getF i acc b).2.1<=10/\(getF i acc b).2.1<=i+b.length/\(getF i acc b).1<=18446744073709551615) /\
  ((getF i acc b).2.2 ≠ 0->(getF i acc b).1=0/\(getF i acc b).2.1=0/\(getF i acc b).2.2<=4)
 | [],i,acc,_,_=>by simp [getF]
 | x :: r,i,acc,hi,ha=>by
  have hx:=x.toNat_lt
  rw [getF]
  split
  ·rename_i h9;subst h9
   split
   ·simp
   ·split
    ·simp
    ·simp;omega
  ·split
   ·rename_i h;have:=get_num (by omega) ha h (by omega)
    simp;omega
   ·have:=getF_facts r (i+1) (acc+(x.toNat - 128) * 128 ^ i) (by omega) (get_acc ha (by omega))
    simp only [List.length_cons]
    refine ⟨fun h=>?_,this.2⟩
    have:=this.1 h
    omega
theorem get_facts (b:List UInt8) :
  ((get b).2.2=0->1<=(get b).2.1/\(get b).2.1<=10/\(get b).2.1<=b.length/\(get b).1<=18446744073709551615) /\
  ((get b).2.2 ≠ 0->(get b).1=0/\(get b).2.1=0/\(get b).2.2<=4):=by
 have:=getF_facts b 0 0 (by omega) (by simp)
 simpa [get] using this
def allF:Nat->List Nat->Nat->List UInt8->List Nat × Nat × Nat
 | _,acc,_,[]=>(acc,0,0)
 | 0,acc,_,_=>(acc,0,0)
 | f+1,acc,p,x :: r =>
  if (get (x :: r)).2.2 ≠ 0 then ([],(get (x :: r)).2.2,p) else allF f (acc++[(get (x :: r)).1]) (p+(get (x :: r)).2.1) ((x :: r).drop (get (x :: r)).2.1)
def all (b:List UInt8):List Nat × Nat × Nat:=allF b.length [] 0 b
end Go.Proofs.YtpmfdlghckfgiaaGreat.M
namespace Go.Proofs.YtpmfdlghckfgiaaGreat
theorem gA {α : Type _} {xs : List α} {i : Nat} : xs.toArray[i]? = xs[i]? := List.getElem?_toArray
theorem gB {α : Type _} {a : α} {l : List α} : (a :: l)[0]? = some a := List.getElem?_cons_zero
theorem gC {α : Type _} {a : α} {i : Nat} {l : List α} : (a :: l)[i + 1]? = l[i]? := List.getElem?_cons_succ
theorem gD {α : Type _} (l : List α) (i : Nat) (a : α) : l.toArray.setIfInBounds i a = (l.set i a).toArray := List.setIfInBounds_toArray l i a
theorem gE {α : Type _} {x : α} {xs : List α} {i : Nat} {a : α} : (x :: xs).set (i + 1) a = x :: xs.set i a := List.set_cons_succ
theorem gF {α : Type _} {x : α} {xs : List α} {a : α} : (x :: xs).set 0 a = a :: xs := List.set_cons_zero
open Go.RowKit
theorem hid {p:Prop} (h:p):Hid p:=h
def Rd (w:World) (A:Option Addr) (xs:List Value):Prop :=
 ∀ k u,xs[k]? = some u->∃ b off,A=some ⟨b,off,none⟩/\b < w.heap.size/\w.cell? ⟨b,off+k,none⟩=some u
def b8 (n:Nat):UInt8:=UInt8.ofNat n
theorem b8_toNat {n:Nat} (h:n < 256):(b8 n).toNat=n:=by unfold b8;rw [UInt8.toNat_ofNat'];omega
theorem b8_self (x:UInt8):b8 x.toNat=x:=by unfold b8;exact UInt8.ofNat_toNat
def bv (x:UInt8):Value:=.int .u8 (x.toNat:Int)
theorem bv_b8 (n:Nat) (h:n < 256):bv (b8 n)=.int .u8 (n:Int):=by simp only [bv,b8_toNat h]
def BRd (w:World) (A:Option Addr) (bs:List UInt8):Prop:=Rd w A (bs.map bv)
theorem Rd.below {w w':World} {A:Option Addr} {xs:List Value} (h:Rd w A xs) (hb:Below w.heap.size w w'):Rd w' A xs:=by
 intro k u hk
 obtain ⟨b,off,rfl,hlt,hc⟩:=h k u hk
 exact ⟨b,off,rfl,Nat.lt_of_lt_of_le hlt hb.size,(hb.cell (p:=⟨b,off+k,none⟩) hlt).trans hc⟩
theorem BRd.at_ {w:World} {A:Option Addr} {bs:List UInt8} (h:BRd w A bs) {k:Nat} (hk:k < bs.length) :
  ∃ b off,A=some ⟨b,off,none⟩/\b < w.heap.size/\w.cell? ⟨b,off+k,none⟩=some (.int .u8 (bs[k].toNat:Int)) :=
 h k (bv bs[k]) (by simp [hk])
def nv (n:Nat):Value:=.int .u64 (n:Int)
def NRd (w:World) (A:Option Addr) (ns:List Nat):Prop:=Rd w A (ns.map nv)
theorem NRd.at_ {w:World} {A:Option Addr} {ns:List Nat} (h:NRd w A ns) {k:Nat} (hk:k < ns.length) :
  ∃ b off,A=some ⟨b,off,none⟩/\b < w.heap.size/\w.cell? ⟨b,off+k,none⟩=some (.int .u64 (ns[k]:Int)) :=
 h k (nv ns[k]) (by simp [hk])
theorem Rd.drewN {w:World} {A:Option Addr} {xs:List Value} (h:Rd w A xs) (n:Nat):Rd (w.drewN n) A xs:=h
structure Sl (w:World) (A:Option Addr) (c:Nat) (xs:List Value):Prop where
 cap:xs.length<=c
 small:c<=9223372036854775807
 nil0:A=none->c=0
 rd:Rd w A xs
theorem Sl.below {w w':World} {A:Option Addr} {c:Nat} {xs:List Value} (h:Sl w A c xs) (hb:Below w.heap.size w w'):Sl w' A c xs:=⟨h.cap,h.small,h.nil0,h.rd.below hb⟩
theorem Sl.nil_ (w:World):Sl w none 0 []:=⟨by simp,by omega,fun _=>rfl,fun k u h=>by simp at h⟩
theorem Sl.drewN {w:World} {A:Option Addr} {c:Nat} {xs:List Value} (h:Sl w A c xs) (n:Nat):Sl (w.drewN n) A c xs:=⟨h.cap,h.small,h.nil0,h.rd⟩
theorem Sl.of_own {w:World} {base e:Nat} {v:Value} {n:Nat} {xs:List Value} (h:w.ownsRow base e 1 v n xs):∃ A c,v=.slice A n c/\n=xs.length/\Sl w A c xs:=by
 have hn:xs.length=n:=by simpa using h.1
 rcases h.2 with ⟨rfl,rfl⟩ | ⟨g,cap,cur,rfl,hb,hg,hnc,hcm,hcs,htake⟩
 ·obtain rfl:xs=[]:=List.eq_nil_of_length_eq_zero hn
  exact ⟨none,0,rfl,rfl,Sl.nil_ w⟩
 ·refine ⟨_,cap,rfl,hn.symm,⟨by omega,hcm,(fun h=>by cases h),fun k u hk=>⟨g,0,rfl,(Array.getElem?_eq_some_iff.1 hg).1,?_⟩⟩⟩
  have:=h.cells (g:=g) rfl k u hk
  have hadd:(⟨g,0,none⟩:Addr).add k=⟨g,0+k,none⟩:=by unfold Addr.add;split <;> simp_all
  rwa [hadd] at this
def Blk (w:World) (g:Nat) (t:TypeId) (cs:Array Value):Prop:=w.heap[g]? = some (.cells cs t (0,0))
section
variable {w w':World} {g:Nat} {t:TypeId} {cs:Array Value}
theorem Blk.lt (h:Blk w g t cs):g < w.heap.size:=(Array.getElem?_eq_some_iff.1 h).1
theorem Blk.cell (h:Blk w g t cs) (i:Nat):w.cell? ⟨g,i,none⟩=cs[i]? := by unfold Blk at h;simp [World.cell?,h]
theorem Blk.frozen (h:Blk w g t cs) (i:Nat):w.frozen? ⟨g,i,none⟩=false:=by unfold Blk at h;simp [World.frozen?,h]
theorem Blk.new (w:World) (t:TypeId) (cs:Array Value):Blk (w.alloc (.cells cs t)) w.heap.size t cs:=heap_alloc_new w _
theorem Blk.alloc (h:Blk w g t cs) (o:Obj):Blk (w.alloc o) g t cs:=(Below.heap_alloc w o g h.lt).trans h
theorem Blk.below {B:Nat} (h:Blk w g t cs) (hb:Below B w w') (hg:g < B):Blk w' g t cs:=(hb.block g hg).trans h
theorem Blk.set_ (h:Blk w g t cs) (i:Nat) (u:Value):Blk (w.setCell ⟨g,i,none⟩ u) g t (cs.setIfInBounds i u):=by
 unfold Blk at h ⊢;simp [World.setCell,Array.getElem?_modify,h]
theorem Blk.far (h:Blk w g t cs) {p:Addr} (hp:g ≠ p.block) (u:Value):Blk (w.setCell p u) g t cs:=(Below.heap_setCell w p u g hp).trans h
end
theorem addr_add (b off k:Nat):(⟨b,off,none⟩:Addr).add k=⟨b,off+k,none⟩:=by unfold Addr.add;split <;> simp_all
theorem Rd.addr {w:World} {a:Addr} {xs:List Value} (h:Rd w (some a) xs):∀ j u,xs[j]? = some u->w.cell? (a.add j)=some u:=by
 intro j u hj
 obtain ⟨b,off,he,_,hc⟩:=h j u hj
 injection he with he
 rw [he,addr_add];exact hc
theorem Rd.none_nil {w:World} {xs:List Value} (h:Rd w none xs):xs=[]:=by
 cases xs with
 | nil=>rfl
 | cons x r=>obtain ⟨b,off,he,_⟩:=h 0 x rfl;cases he
theorem Rd.nil_ (w:World) (A:Option Addr):Rd w A []:=fun k u h=>by simp at h
theorem Rd.drop {w:World} {b off:Nat} {xs:List Value} (h:Rd w (some ⟨b,off,none⟩) xs) (k:Nat):Rd w (some ⟨b,off+k,none⟩) (xs.drop k):=by
 intro j u hj
 rw [List.getElem?_drop] at hj
 obtain ⟨b',off',he,hlt,hc⟩:=h (k+j) u hj
 injection he with he;injection he with h1 h2;subst h1;subst h2
 exact ⟨b,off+k,rfl,hlt,by rw [Nat.add_assoc];exact hc⟩
theorem Rd.take {w:World} {A:Option Addr} {xs:List Value} (h:Rd w A xs) (k:Nat):Rd w A (xs.take k):=by
 intro j u hj
 rw [List.getElem?_take] at hj
 split at hj
 ·exact h j u hj
 ·cases hj
theorem wpList_append_rd {P:Program} {w:World} {ops:Array Oper} {rest:List Oper} {o:Oper} {a:Act} {Q:Exit->Act->World->Prop} (hgd:o.guard=none) (s x:Operand) (t:TypeId)
  (ho:o.op=.call { callee:=.builtin .append,args:=#[s,x],argTypes:=#[t,t] })
  (base:Nat) (e:TypeId) (i:TypeInfo) (z:Value) (size bytes:Nat) (ht:P.underlying t=some (.slice e)) (hi:P.info? e=some i) (hz:i.zero=some z)
  (hsize:i.size=size) (hby:i.bytes=bytes) (hzs:z.cells.size=size) (hsz:0 < size)
  (v:Value) (n:Nat) (xs:List Value) (hs:a.eval s=v) (hown:w.ownsRow base e size v n xs)
  (A:Option Addr) (m c:Nat) (news:List Value) (hx:a.eval x=.slice A m c) (hl:news.length=m * size) (hr:Rd w A news) (hn:A=none->c=0) (h1:∀ u ∈ news,u.oneCell'=true)
  (h63:n+m<=maxLen) (hbytes:(n+m) * bytes<=140737488355328) (hbase:base<=w.heap.size)
  (h:∀ v' w',w'.ownsRow base e size v' (n+m) (xs++news)->w.grownBy w' v.ownBlock->wpList P ops Q rest (a.put o.dst v') w'):wpList P ops Q (o :: rest) a w:=by
 cases A with
 | none =>
  obtain rfl:=hr.none_nil
  obtain rfl:=hn rfl
  have hm:m=0:=by
   have h0:m * size=0:=by simpa using hl.symm
   rcases Nat.mul_eq_zero.1 h0 with q | q <;> omega
  subst hm
  exact wpList_append_own_none hgd s x t ho base e i size ht hi v n xs hs hown hx (h v w (by simpa using hown) ⟨rfl,rfl,rfl,Nat.le_refl _,fun _ _ _=>rfl⟩)
 | some ad=>exact wpList_append_own w hgd s x t ho base e i z size bytes ht hi hz hsize hby hzs hsz v n xs hs hown ad m c news hx hl hr.addr h1 h63 hbytes hbase fun v' w' h2 h3 _=>h v' w' h2 h3
theorem bw_t {a b c:World} (h:Below a.heap.size a b) (k:Below b.heap.size b c):Below a.heap.size a c:=h.trans (k.mono h.size)
theorem bw_d {a b:World} (h:Below a.heap.size a b) (n:Nat):Below a.heap.size a (b.drewN n):=⟨h.os,h.tape,h.output,h.size,h.block⟩
theorem bw_a {a b:World} (h:Below a.heap.size a b) (o:Obj):Below a.heap.size a (b.alloc o):=h.alloc h.size o
theorem bw_g {a b c:World} {row:Option Nat} (h:Below a.heap.size a b) (hg:b.grownBy c row) (hr:∀ k,row=some k->a.heap.size<=k):Below a.heap.size a c:=h.grown hg h.size hr
theorem bv_one (bs:List UInt8):∀ u ∈ bs.map bv,u.oneCell'=true:=by
 intro u hu;obtain ⟨b,_,rfl⟩:=List.mem_map.1 hu;simp [bv,Value.oneCell']
theorem Rd.of_blk {w:World} {g:Nat} {t:TypeId} {cs:Array Value} (h:Blk w g t cs):Rd w (some ⟨g,0,none⟩) cs.toList:=by
 intro k u hk
 exact ⟨g,0,rfl,h.lt,by rw [h.cell];simpa using hk⟩
theorem Rd.new (w:World) (t:TypeId) (cs:Array Value):Rd (w.alloc (.cells cs t)) (some ⟨w.heap.size,0,none⟩) cs.toList:=Rd.of_blk (Blk.new w t cs)
theorem own_mono {w:World} {base base' e size n:Nat} {v:Value} {xs:List Value} (h:w.ownsRow base e size v n xs) (hb:base'<=base):w.ownsRow base' e size v n xs:=by
 refine ⟨h.1,h.2.imp_right ?_⟩
 rintro ⟨g,cap,cur,hv,hg,r⟩
 exact ⟨g,cap,cur,hv,Nat.le_trans hb hg,r⟩
theorem own_below {w w':World} {base e size n:Nat} {v:Value} {xs:List Value} (h:w.ownsRow base e size v n xs) (hb:Below w.heap.size w w'):w'.ownsRow base e size v n xs :=
 h.kept (row:=none) ⟨hb.os,hb.tape,hb.output,hb.size,fun k hk _=>hb.block k hk⟩ (by cases hv:v.ownBlock <;> simp)
theorem own_two {w:World} {b1 e1 s1 n1 b2 e2 s2 n2:Nat} {v1 v2:Value} {xs1 xs2:List Value} (h1:w.ownsRow b1 e1 s1 v1 n1 xs1) (h2:w.ownsRow b2 e2 s2 v2 n2 xs2) (hne:e1 ≠ e2) :
  v1.ownBlock=none\/v1.ownBlock ≠ v2.ownBlock:=by
 rcases h1.2 with ⟨rfl,_⟩ | ⟨g1,c1,cur1,rfl,_,hg1,_⟩
 ·exact .inl rfl
 rcases h2.2 with ⟨rfl,_⟩ | ⟨g2,c2,cur2,rfl,_,hg2,_⟩
 ·exact .inr (by simp [Value.ownBlock])
 ·refine .inr fun he=>?_
  have hg:g1=g2:=by simpa [Value.ownBlock] using he
  subst hg
  rw [hg1] at hg2
  injection hg2 with hg2
  injection hg2 with _ ht
  exact hne ht
theorem own_setBelow {w:World} {base e size n:Nat} {v:Value} {xs:List Value} (h:w.ownsRow base e size v n xs) {p:Addr} (hp:p.block < base) (u:Value):(w.setCell p u).ownsRow base e size v n xs:=ownsRow_setCell_below h hp u
theorem eq_of_take {α:Type} {xs ys:List α} {k:Nat} (hl:xs.length=ys.length) (hk:xs.length<=k) (h:xs.take k=ys.take k):xs=ys:=by
 rwa [List.take_of_length_le hk,List.take_of_length_le (by omega)] at h
theorem ne_of_get {α:Type} {xs ys:List α} {k:Nat} (h1:k < xs.length) (h2:k < ys.length) (h:xs[k] ≠ ys[k]):xs ≠ ys:=by
 rintro rfl;exact h rfl
theorem ret_bool {a b:Bool} (h:a=b):Ending.returned (.bool a)=.returned (.bool b):=by rw [h]
theorem ret_int {k:IntKind} {a b:Int} (h:a=b):Ending.returned (.int k a)=.returned (.int k b):=by rw [h]
end Go.Proofs.YtpmfdlghckfgiaaGreat
namespace Go.Proofs.YtpmfdlghckfgiaaGreat
theorem Tryz.info5:(Tryz.prog.info? 5).map (fun i=>(i.zero,i.size,i.bytes))=some (some (.int .u8 0),1,1):=by kernel_rfl
end Go.Proofs.YtpmfdlghckfgiaaGreat
namespace Go.Proofs.YtpmfdlghckfgiaaGreat
open Go.RowKit
structure Only (q:Nat) (w w':World):Prop where
 os:w'.os=w.os
 tape:w'.tape=w.tape
 output:w'.output=w.output
 size:w.heap.size<=w'.heap.size
 block:∀ k,k < w.heap.size->k ≠ q->w'.heap[k]? = w.heap[k]?
section
variable {q:Nat} {w w' w'':World}
theorem Only.refl (q:Nat) (w:World):Only q w w:=⟨rfl,rfl,rfl,Nat.le_refl _,fun _ _ _=>rfl⟩
theorem Only.trans (h:Only q w w') (k:Only q w' w''):Only q w w'' :=
 ⟨k.os.trans h.os,k.tape.trans h.tape,k.output.trans h.output,Nat.le_trans h.size k.size,fun i hi hq=>(k.block i (Nat.lt_of_lt_of_le hi h.size) hq).trans (h.block i hi hq)⟩
theorem Only.of_below (h:Below w.heap.size w w'):Only q w w':=⟨h.os,h.tape,h.output,h.size,fun k hk _=>h.block k hk⟩
theorem Only.alloc (h:Only q w w') (o:Obj):Only q w (w'.alloc o):=h.trans (.of_below ((Below.refl _ _).alloc (Nat.le_refl _) _))
theorem Only.drewN (h:Only q w w') (n:Nat):Only q w (w'.drewN n):=⟨h.os,h.tape,h.output,h.size,h.block⟩
theorem Only.set_ (h:Only q w w') (i:Nat) (u:Value):Only q w (w'.setCell ⟨q,i,none⟩ u):=by
 refine ⟨h.os,h.tape,h.output,by simpa [World.setCell] using h.size,fun k hk hq=>?_⟩
 rw [Below.heap_setCell w' ⟨q,i,none⟩ u k hq]
 exact h.block k hk hq
theorem Only.new_ (h:Only q w w') {g:Nat} (hg:w.heap.size<=g) (i:Nat) (u:Value):Only q w (w'.setCell ⟨g,i,none⟩ u):=by
 refine ⟨h.os,h.tape,h.output,by simpa [World.setCell] using h.size,fun k hk hq=>?_⟩
 rw [Below.heap_setCell w' ⟨g,i,none⟩ u k (by show k ≠ g;omega)]
 exact h.block k hk hq
theorem Only.grown (h:Only q w w') {row:Option Nat} (hg:w'.grownBy w'' row) (hr:∀ k,row=some k->w.heap.size<=k):Only q w w'':=by
 refine ⟨hg.os.trans h.os,hg.tape.trans h.tape,hg.output.trans h.output,Nat.le_trans h.size hg.size,fun k hk hq=>?_⟩
 rw [hg.block k (Nat.lt_of_lt_of_le hk h.size) (fun e=>by have:=hr k e.symm;omega)]
 exact h.block k hk hq
theorem Only.below {B:Nat} (h:Only q w w') (hq:B<=q) (hB:B<=w.heap.size):Below B w w' :=
 ⟨h.os,h.tape,h.output,h.size,fun k hk=>h.block k (by omega) (by omega)⟩
theorem Only.blk {g:Nat} {t:TypeId} {cs:Array Value} (h:Only q w w') (hb:Blk w g t cs) (hg:g ≠ q):Blk w' g t cs:=(h.block g hb.lt hg).trans hb
def Far (A:Option Addr) (n q:Nat):Prop:=0 < n->∀ b off,A=some ⟨b,off,none⟩->b ≠ q
theorem Only.rd {A:Option Addr} {xs:List Value} {n:Nat} (h:Only q w w') (hr:Rd w A xs) (hf:Far A n q) (hn:xs.length=n):Rd w' A xs:=by
 intro k u hk
 have hpos:0 < n:=by have:=(List.getElem?_eq_some_iff.1 hk).1;omega
 obtain ⟨b,off,rfl,hlt,hc⟩:=hr k u hk
 refine ⟨b,off,rfl,Nat.lt_of_lt_of_le hlt h.size,?_⟩
 rw [<-hc]
 exact World.cell?_of_block (h.block b hlt (hf hpos b off rfl))
theorem Only.sl {A:Option Addr} {c n:Nat} {xs:List Value} (h:Only q w w') (hs:Sl w A c xs) (hf:Far A n q) (hn:xs.length=n):Sl w' A c xs:=⟨hs.cap,hs.small,hs.nil0,h.rd hs.rd hf hn⟩
end
theorem Only.of_grown {q:Nat} {w w':World} (h:w.grownBy w' (some q)):Only q w w':=⟨h.os,h.tape,h.output,h.size,fun k hk hq=>h.block k hk (by simpa using hq)⟩
end Go.Proofs.YtpmfdlghckfgiaaGreat
namespace Go.Proofs.YtpmfdlghckfgiaaGreat
open Go.RowKit
structure Chg (S:Nat->Prop) (w w':World):Prop where
 os:w'.os=w.os
 tape:w'.tape=w.tape
 output:w'.output=w.output
 size:w.heap.size<=w'.heap.size
 block:∀ k,k < w.heap.size->¬ S k->w'.heap[k]? = w.heap[k]?
section
variable {S T:Nat->Prop} {w w' w'':World}
theorem Chg.refl (S:Nat->Prop) (w:World):Chg S w w:=⟨rfl,rfl,rfl,Nat.le_refl _,fun _ _ _=>rfl⟩
theorem Chg.trans (h:Chg S w w') (k:Chg S w' w''):Chg S w w'' :=
 ⟨k.os.trans h.os,k.tape.trans h.tape,k.output.trans h.output,Nat.le_trans h.size k.size,fun i hi hq=>(k.block i (Nat.lt_of_lt_of_le hi h.size) hq).trans (h.block i hi hq)⟩
theorem Chg.mono (h:Chg S w w') (hT:∀ k,k < w.heap.size->S k->T k):Chg T w w':=⟨h.os,h.tape,h.output,h.size,fun k hk hq=>h.block k hk fun hs=>hq (hT k hk hs)⟩
theorem Chg.of_below {B:Nat} (h:Below B w w') (hS:∀ k,k < w.heap.size->¬ S k->k < B):Chg S w w':=⟨h.os,h.tape,h.output,h.size,fun k hk hq=>h.block k (hS k hk hq)⟩
theorem Chg.of_new (h:Below w.heap.size w w'):Chg S w w':=.of_below h fun k hk _=>hk
theorem Chg.of_only {q:Nat} (h:Only q w w') (hq:S q):Chg S w w':=⟨h.os,h.tape,h.output,h.size,fun k hk hn=>h.block k hk fun e=>hn (e ▸ hq)⟩
theorem Chg.of_grown {row:Option Nat} (h:w.grownBy w' row) (hq:∀ g,row=some g->S g):Chg S w w':=⟨h.os,h.tape,h.output,h.size,fun k hk hn=>h.block k hk fun e=>hn (hq k e.symm)⟩
theorem Chg.set_ (h:Chg S w w') {g:Nat} (hg:S g\/w.heap.size<=g) (i:Nat) (u:Value):Chg S w (w'.setCell ⟨g,i,none⟩ u):=by
 refine ⟨h.os,h.tape,h.output,by simpa [World.setCell] using h.size,fun k hk hq=>?_⟩
 rw [Below.heap_setCell w' ⟨g,i,none⟩ u k (by intro e;simp only at e;subst e;rcases hg with hg | hg;exact hq hg;omega)]
 exact h.block k hk hq
theorem Chg.alloc (h:Chg S w w') (o:Obj):Chg S w (w'.alloc o):=h.trans (.of_new ((Below.refl _ _).alloc (Nat.le_refl _) _))
theorem Chg.drewN (h:Chg S w w') (n:Nat):Chg S w (w'.drewN n):=⟨h.os,h.tape,h.output,h.size,h.block⟩
theorem Chg.drew (h:Chg S w w'):Chg S w w'.drew:=⟨h.os,h.tape,h.output,h.size,h.block⟩
theorem Chg.below {B:Nat} (h:Chg S w w') (hS:∀ k,S k->B<=k) (hB:B<=w.heap.size):Below B w w':=⟨h.os,h.tape,h.output,h.size,fun k hk=>h.block k (by omega) fun hs=>by have:=hS k hs;omega⟩
theorem Chg.blk {g:Nat} {t:TypeId} {cs:Array Value} (h:Chg S w w') (hb:Blk w g t cs) (hg:¬ S g):Blk w' g t cs:=(h.block g hb.lt hg).trans hb
def FarS (A:Option Addr) (n:Nat) (S:Nat->Prop):Prop:=0 < n->∀ b off,A=some ⟨b,off,none⟩->¬ S b
theorem Chg.rd {A:Option Addr} {xs:List Value} {n:Nat} (h:Chg S w w') (hr:Rd w A xs) (hf:FarS A n S) (hn:xs.length=n):Rd w' A xs:=by
 intro k u hk
 have hpos:0 < n:=by have:=(List.getElem?_eq_some_iff.1 hk).1;omega
 obtain ⟨b,off,rfl,hlt,hc⟩:=hr k u hk
 refine ⟨b,off,rfl,Nat.lt_of_lt_of_le hlt h.size,?_⟩
 rw [<-hc]
 exact World.cell?_of_block (h.block b hlt (hf hpos b off rfl))
theorem Chg.sl {A:Option Addr} {c n:Nat} {xs:List Value} (h:Chg S w w') (hs:Sl w A c xs) (hf:FarS A n S) (hn:xs.length=n):Sl w' A c xs:=⟨hs.cap,hs.small,hs.nil0,h.rd hs.rd hf hn⟩
theorem FarS.far {A:Option Addr} {n:Nat} (h:FarS A n S) {q:Nat} (hq:S q):Far A n q:=fun hp b off e hb=>h hp b off e (hb ▸ hq)
theorem FarS.imp {A:Option Addr} {n:Nat} (h:FarS A n S) (hT:∀ k,T k->S k):FarS A n T:=fun hp b off e hb=>h hp b off e (hT b hb)
end
def Views (e:TypeId) (v:Value) (n:Nat) (w w':World):Prop:=∀ B v0 n0 xs0,w.ownsRow B e 1 v0 n0 xs0->(v0.ownBlock ≠ none->v0.ownBlock=v.ownBlock->n0<=n)->w'.ownsRow B e 1 v0 n0 xs0
def NewOr (w:World) (v v':Value):Prop:=v'.ownBlock=v.ownBlock\/∀ g,v'.ownBlock=some g->w.heap.size<=g
theorem views_kept {e:TypeId} {v:Value} {n:Nat} {w w':World} (h:Below w.heap.size w w'):Views e v n w w':=fun B v0 n0 xs0 h0 _=>own_below h0 h
end Go.Proofs.YtpmfdlghckfgiaaGreat
namespace Go.Proofs.YtpmfdlghckfgiaaGreat
open Go.RowKit
theorem run_append_new {P:Program} (w:World) (base:Nat) (t ty e:TypeId) (i:TypeInfo) (z:Value) (size bytes:Nat) (ht:P.underlying t=some (.slice e)) (hi:P.info? e=some i) (hz:i.zero=some z)
  (hsize:i.size=size) (hby:i.bytes=bytes) (hzs:z.cells.size=size) (hsz:0 < size) (v:Value) (n:Nat) (xs:List Value) (hown:w.ownsRow base e size v n xs)
  (ad:Addr) (m c:Nat) (news:List Value) (hl:news.length=m * size) (hr:Rd w (some ad) news) (h1:∀ u ∈ news,u.oneCell'=true)
  (h63:n+m<=maxLen) (hbytes:(n+m) * bytes<=140737488355328) (hbase:base<=w.heap.size) :
  ∃ v' w',(Builtin.append_ #[t,t] ty #[v,.slice (some ad) m c]).run P w=.ok v' w'/\w'.ownsRow base e size v' (n+m) (xs++news)/\w.grownBy w' v.ownBlock/\NewOr w v v':=by
 obtain ⟨v',w',hrun,h2,h3,h4⟩:=run_append_own (P:=P) w base t ty e i z size bytes ht hi hz hsize hby hzs hsz v n xs hown ad m c news hl hr.addr h1 h63 hbytes hbase
 refine ⟨v',w',hrun,h2,h3,?_⟩
 have h63':n+m<=9223372036854775807:=by simp only [maxLen] at h63;omega
 subst hsize
 subst hby
 rcases hown.2 with ⟨rfl,rfl⟩ | ⟨g,cap,cur,rfl,hbg,hg,hnc,hcm,hcs,htake⟩
 ·by_cases hm:m=0
  ·exact .inl (by rw [(h4.2 ⟨rfl,hm⟩)])
  ·have hq:=run_append_nil (P:=P) w t ty e i z ht hi hz ad m c news hl hr.addr (by omega) (by omega) (by have hb:=hbytes;simp only [Nat.zero_add] at hb;omega)
   rw [hq] at hrun
   injection hrun with e1 e2
   subst e1
   exact .inr fun g e=>by simp [Value.ownBlock] at e;omega
 ·by_cases hroom:n+m<=cap
  ·have hfit:n * i.size+news.length<=cur.size:=by rw [hl,hcs,<-Nat.add_mul];exact Nat.mul_le_mul_right _ hroom
   have hq:=run_append_room (P:=P) w t ty e i ht hi g n cap cur hg ad m c news hl hr.addr h1 hroom hfit
   rw [hq] at hrun
   injection hrun with e1 e2
   subst e1
   exact .inl rfl
  ·have holds:∀ j u,xs[j]? = some u->w.cell? ((⟨g,0,none⟩:Addr).add j)=some u:=hown.cells (g:=g) rfl
   have hq:=run_append_grow (P:=P) w t ty e i z ht hi hz ⟨g,0,none⟩ n cap xs hown.1 holds ad m c news hl hr.addr (by omega) (by omega) (growslice_fits (by omega) hbytes)
   rw [hq] at hrun
   injection hrun with e1 e2
   subst e1
   exact .inr fun g e=>by simp [Value.ownBlock] at e;omega
theorem wpList_append_new {P:Program} {w:World} {ops:Array Oper} {rest:List Oper} {o:Oper} {a:Act} {Q:Exit->Act->World->Prop} (hgd:o.guard=none) (s x:Operand) (t:TypeId)
  (ho:o.op=.call { callee:=.builtin .append,args:=#[s,x],argTypes:=#[t,t] })
  (base:Nat) (e:TypeId) (i:TypeInfo) (z:Value) (size bytes:Nat) (ht:P.underlying t=some (.slice e)) (hi:P.info? e=some i) (hz:i.zero=some z)
  (hsize:i.size=size) (hby:i.bytes=bytes) (hzs:z.cells.size=size) (hsz:0 < size)
  (v:Value) (n:Nat) (xs:List Value) (hs:a.eval s=v) (hown:w.ownsRow base e size v n xs)
  (ad:Addr) (m c:Nat) (news:List Value) (hx:a.eval x=.slice (some ad) m c) (hl:news.length=m * size) (hr:Rd w (some ad) news) (h1:∀ u ∈ news,u.oneCell'=true)
  (h63:n+m<=maxLen) (hbytes:(n+m) * bytes<=140737488355328) (hbase:base<=w.heap.size)
  (h:∀ v' w',w'.ownsRow base e size v' (n+m) (xs++news)->w.grownBy w' v.ownBlock->NewOr w v v'->wpList P ops Q rest (a.put o.dst v') w'):wpList P ops Q (o :: rest) a w:=by
 refine wpList_plain hgd fun K hK=>?_
 obtain ⟨v',w',hrun,h2,h3,h4⟩:=run_append_new (P:=P) w base t o.type e i z size bytes ht hi hz hsize hby hzs hsz v n xs hown ad m c news hl hr h1 h63 hbytes hbase
 unfold Oper.wp execOp
 simp only [ho,resolve,invoke,builtin,Sem.run_bind,Sem.run_pure,Result.andThen_ok,List.map_toArray,List.map_cons,List.map_nil,hs,hx,hrun]
 exact hK _ _ (h v' w' h2 h3 h4)
end Go.Proofs.YtpmfdlghckfgiaaGreat
set_option linter.unusedVariables false
set_option maxRecDepth 100000
set_option maxHeartbeats 16000000
namespace Go.Proofs.YtpmfdlghckfgiaaGreat
theorem wpOp_of_list {P:Program} {ops:Array Oper} {Q:Exit->Act->World->Prop} {i:Nat} {o:Oper} {K:Act->World->Prop} {a:Act} {w:World} (ho:ops[i]? = some o) (h:wpList P ops (Exit.then K Q) [o] a w):wpOp P ops Q i K a w:=by
 unfold wpOp
 simp only [ho]
 unfold wpList at h
 split
 ·rename_i hw
  simp only [hw,if_true] at h
  rcases h with h | ⟨h1,h2⟩
  ·left
   unfold Oper.wp at *
   generalize (execOp a.eval o).run P w=r at *
   cases r with
   | ok n w' =>
    cases n <;> simp only [Oper.upon] at h ⊢ <;> first
     | exact h
     | exact Calls.mono h (fun e w'' he=>by cases e <;> first | exact he | (obtain ⟨a2,w2,h2⟩:=he;exact ⟨a2,w2,h2⟩))
     | exact Rows.mono h (fun _ _ he=>he)
   | halt x w'=>cases x <;> simp only [Oper.upon] at h ⊢ <;> exact h
  ·exact .inr ⟨h1,by obtain ⟨a2,w2,h3⟩:=h2;exact ⟨a2,w2,h3⟩⟩
 ·rename_i hw
  simp only [hw] at h
  exact h
def regUp (ops:Array Oper):Bool:=(List.range ops.size).all fun i=>((ops[i]?).map fun o=>o.after.all fun e=>decide (e.on < i)).getD true
theorem regUp_spec {ops:Array Oper} (h:regUp ops=true) {i:Nat} {o:Oper} (ho:ops[i]? = some o):∀ e ∈ o.after,e.on < i:=by
 have hi:i < ops.size:=(Array.getElem?_eq_some_iff.1 ho).1
 unfold regUp at h
 rw [List.all_eq_true] at h
 have h1:=h i (List.mem_range.2 hi)
 rw [ho] at h1
 intro e he
 obtain ⟨k,hk,rfl⟩:=Array.mem_iff_getElem.1 he
 have h2:∀ (j:Nat) (x:j < o.after.size),o.after[j].on < i:=by simpa using h1
 exact h2 k hk
theorem wpAny_inv {P:Program} {md:Region.Mode} {ops:Array Oper} {Q:Exit->Act->World->Prop} (hup:regUp ops=true) (I:(Nat->Bool)->Act->World->Prop)
  (hstep:∀ f a w i o,ops[i]? = some o->f i=false->(∀ e ∈ o.after,Region.binds md e=true->f e.on=true)->I f a w->wpList P ops (Exit.then (fun a' w'=>I (fun k=>decide (k=i) || f k) a' w') Q) [o] a w)
  (hdone:∀ f a w,(∀ i,i < ops.size->f i=true)->I f a w->Q .normal a w) :
  ∀ (fuel:Nat) (listed:Array Bool) (a:Act) (w:World),listed.size=ops.size->((List.range ops.size).filter fun i => !listed.getD i true).length<=fuel->I (fun k=>listed.getD k true) a w->wpAny P md ops Q fuel listed a w:=by
 have hall:∀ (listed:Array Bool),listed.size=ops.size->Region.ready md ops listed=[]->∀ i,i < ops.size->listed.getD i true=true:=by
  intro listed hsz hr i
  induction i using Nat.strongRecOn with
  | _ i ih =>
   intro hi
   cases hb:listed.getD i true with
   | true=>rfl
   | false =>
    exfalso
    have ho:ops[i]? = some ops[i]:=Array.getElem?_eq_getElem hi
    have:i ∈ Region.ready md ops listed:=mem_ready.2 ⟨hb,ops[i],ho,fun e he _=>by
     have h1:=regUp_spec hup ho e he
     have h2:=ih e.on h1 (by omega)
     have h3:e.on < listed.size:=by omega
     simp only [Array.getD_eq_getD_getElem?,Array.getElem?_eq_getElem h3,Option.getD_some] at h2 ⊢
     exact h2⟩
    rw [hr] at this
    cases this
 intro fuel
 induction fuel with
 | zero =>
  intro listed a w hsz hc hI
  have hnil:Region.ready md ops listed=[]:=by
   cases hr:Region.ready md ops listed with
   | nil=>rfl
   | cons x xs =>
    have hx:x ∈ Region.ready md ops listed:=by rw [hr];exact List.mem_cons_self ..
    obtain ⟨h1,o,h2,-⟩:=mem_ready.1 hx
    have h3:x ∈ (List.range ops.size).filter fun i => !listed.getD i true:=List.mem_filter.2 ⟨List.mem_range.2 (Array.getElem?_eq_some_iff.1 h2).1,by rw [h1];rfl⟩
    have:=List.length_pos_of_mem h3
    omega
  exact ⟨hnil,hdone _ a w (hall listed hsz hnil) hI⟩
 | succ fuel ih =>
  intro listed a w hsz hc hI
  refine ⟨fun hr=>hdone _ a w (hall listed hsz hr) hI,fun i hi=>?_⟩
  obtain ⟨h1,o,h2,h3⟩:=mem_ready.1 hi
  have hlt:i < ops.size:=(Array.getElem?_eq_some_iff.1 h2).1
  refine wpOp_mono (fun a' w' h=>?_) (wpOp_of_list h2 (hstep _ a w i o h2 h1 (fun e he hb=>by
   have h4:=h3 e he hb
   have h5:=regUp_spec hup h2 e he
   have h6:e.on < listed.size:=by omega
   simp only [Array.getD_eq_getD_getElem?,Array.getElem?_eq_getElem h6,Option.getD_some] at h4 ⊢
   exact h4) hI))
  have hfn:(fun k=>decide (k=i) || listed.getD k true)=fun k=>(listed.setIfInBounds i true).getD k true:=by
   funext k
   by_cases hk:k=i
   ·subst hk
    simp [Array.getD_eq_getD_getElem?,hsz,hlt]
   ·rw [getD_set_ne true (fun e=>hk e.symm)]
    simp [hk]
  refine ih _ a' w' (by simpa using hsz) ?_ (by rw [<-hfn];exact h)
  have hf:((List.range ops.size).filter fun k => !(listed.setIfInBounds i true).getD k true)=((List.range ops.size).filter fun k => !listed.getD k true).filter fun k => !decide (k=i):=by
   rw [List.filter_filter]
   congr 1
   funext k
   rw [<-congrFun hfn k]
   cases decide (k=i) <;> simp
  have hmem:i ∈ (List.range ops.size).filter fun k => !listed.getD k true:=List.mem_filter.2 ⟨List.mem_range.2 hlt,by rw [h1];rfl⟩
  have hlt2:(((List.range ops.size).filter fun k => !listed.getD k true).filter fun k => !decide (k=i)).length < ((List.range ops.size).filter fun k => !listed.getD k true).length :=
   List.length_filter_lt_length_iff_exists.2 ⟨i,hmem,by simp⟩
  rw [hf]
  omega
theorem wp_region_inv {P:Program} {ops:Array Oper} {Q:Exit->Act->World->Prop} {id:Nat} {a:Act} {w:World} (hm:P.follows .mixedOrders=true) (hup:regUp ops=true) (I:Act->World->(Nat->Bool)->Act->World->Prop)
  (h0:I a w (fun k=>decide (ops.size<=k)) a w.drew)
  (hstep:∀ f a' w' i o,ops[i]? = some o->f i=false->(∀ e ∈ o.after,Region.binds .any e=true->f e.on=true)->I a w f a' w'->wpList P ops (Exit.then (fun a'' w''=>I a w (fun k=>decide (k=i) || f k) a'' w'') Q) [o] a' w')
  (hdone:∀ f a' w',(∀ i,i < ops.size->f i=true)->I a w f a' w'->Q .normal a' w'):(Code.region id ops true).wp P Q a w:=by
 refine wp_region_any hm (wpAny_inv hup (I a w) hstep hdone ops.size _ a _ (by simp) ?_ ?_)
 ·exact Nat.le_trans (List.length_filter_le _ _) (by simp)
 ·have e:(fun k=>(Array.replicate ops.size false).getD k true)=fun k=>decide (ops.size<=k):=by
   funext k
   by_cases hk:k < ops.size
   ·simp [Array.getD_eq_getD_getElem?,hk]
   ·simp [Array.getD_eq_getD_getElem?,hk];omega
  rw [e]
  exact h0
end Go.Proofs.YtpmfdlghckfgiaaGreat
set_option linter.unusedVariables false
set_option maxRecDepth 100000
set_option maxHeartbeats 16000000
namespace Go.Proofs.YtpmfdlghckfgiaaGreat
open Go.RowKit
def Marks (B:Nat) (W:World) (Ds:List Nat):Prop:=Ds.Nodup/\∀ D ∈ Ds,B<=D/\W.heap[D]? = some (.deferred (some []))
def marksOf (Ds:List Nat):List Deferred:=Ds.map fun D=>{ target:=.collected D,args:=#[] }
theorem Marks.nil_ (B:Nat) (W:World):Marks B W []:=⟨List.nodup_nil,fun D h=>by simp at h⟩
theorem Marks.lt {B:Nat} {W:World} {Ds:List Nat} (h:Marks B W Ds) {D:Nat} (hD:D ∈ Ds):D < W.heap.size:=(Array.getElem?_eq_some_iff.1 (h.2 D hD).2).1
theorem Marks.cons_ {B:Nat} {W:World} {Ds:List Nat} (h:Marks B W Ds) {D:Nat} (hD:B<=D) (hn:D ∉ Ds) (hk:W.heap[D]? = some (.deferred (some []))):Marks B W (D :: Ds) :=
 ⟨List.nodup_cons.2 ⟨hn,h.1⟩,fun x hx=>by rcases List.mem_cons.1 hx with rfl | hx;exact ⟨hD,hk⟩;exact h.2 x hx⟩
theorem Marks.chg {B:Nat} {W W':World} {Ds:List Nat} {S:Nat->Prop} (h:Marks B W Ds) (hc:Chg S W W') (hS:∀ D ∈ Ds,¬ S D):Marks B W' Ds :=
 ⟨h.1,fun D hD=>⟨(h.2 D hD).1,(hc.block D (h.lt hD) (hS D hD)).trans (h.2 D hD).2⟩⟩
theorem chg_putObj {S:Nat->Prop} {W:World} {l:Nat} (o:Obj) (hl:S l):Chg S W (W.putObj l o):=Chg.of_grown (grownBy_putObj' W l o) fun g e=>by cases e;exact hl
theorem leaves_marks {F:Fence} {n:Nat} {P:Program} {fn:Func} {tmps:Array Value} {R:Ending->World->Prop} (B:Nat):∀ (Ds:List Nat) (W:World),Marks B W Ds ->
  (∀ W',Chg (fun k=>k ∈ Ds) W W'->LeavesInM F n P fn tmps R [] .returning W')->LeavesInM F n P fn tmps R (marksOf Ds) .returning W
 | [],W,_,h=>h W (Chg.refl _ _)
 | D :: Ds,W,hm,h=>by
  obtain ⟨hnd,hall⟩:=hm
  have hD:=hall D (List.mem_cons_self ..)
  refine ⟨by simp,.inl ⟨D,_,rfl,run_takeDeferred hD.2,?_⟩⟩
  have hc:Chg (fun k=>k ∈ D :: Ds) W (W.putObj D (.deferred none)):=chg_putObj _ (List.mem_cons_self ..)
  have hc1:Chg (fun k=>k=D) W (W.putObj D (.deferred none)):=chg_putObj _ rfl
  refine leaves_marks B Ds _ (Marks.chg ⟨(List.nodup_cons.1 hnd).2,fun x hx=>hall x (List.mem_cons_of_mem _ hx)⟩ hc1 fun x hx e=>?_) fun W' hW'=>h W' (hc.trans (hW'.mono fun k _ hk=>List.mem_cons_of_mem _ hk))
  subst e
  exact (List.nodup_cons.1 hnd).1 hx
end Go.Proofs.YtpmfdlghckfgiaaGreat
namespace Go.Proofs.YtpmfdlghckfgiaaGreat
open Go.RowKit
def KN (z n:Nat) (W W':World):Prop:=∀ q,z<=q->q < z+n->W'.heap[q]? = W.heap[q]?
theorem KN.of_chg {z n:Nat} {W W':World} {S:Nat->Prop} (h:Chg S W W') (hz:z+n<=W.heap.size) (h0:∀ q,z<=q->q < z+n->¬ S q):KN z n W W':=fun q h1 h2=>h.block q (by omega) (h0 q h1 h2)
theorem KN.trans {z n:Nat} {W W' W'':World} (h:KN z n W W') (k:KN z n W' W''):KN z n W W'':=fun q h1 h2=>(k q h1 h2).trans (h q h1 h2)
theorem KN.refl (z n:Nat) (W:World):KN z n W W:=fun _ _ _=>rfl
theorem KN.sub {z n a k:Nat} {W W':World} (h:KN z n W W') (h1:z<=a) (h2:a+k<=z+n):KN a k W W':=fun q g1 g2=>h q (by omega) (by omega)
def rPost (z n:Nat) (I:Nat->World->Prop) (Ix:Code->World->Prop) (j:Nat) (W:World):Exit->Act->World->Prop
 | .normal,_,W'=>KN z n W W'/\I (j+1) W'
 | .ret,_,W'=>KN z n W W'/\Ix .ret W'
 | .exit id,_,W'=>KN z n W W'/\Ix (.exit id) W'
 | .goto t,_,W'=>KN z n W W'/\Ix (.goto t) W'
 | .panic _,_,_=>False
 | .outgrown,_,_=>False
theorem range_wide {P:Program} {g:Operand} {ps:Array Tmp} {assign body:Code} {Q:Exit->Act->World->Prop} {a:Act} {w:World} (m:Nat) (hm:2<=m) (z:Nat) (hz:w.heap.size=z)
  {gf:Nat} {lb:Array Value} (hg:a.eval g=.func (.func gf) #[] lb) (eg:∀ args w,(callFunc gf args).run P w=.ok (.enter gf args) w)
  (N:Nat) (enc:Nat->Array Value) (hps:∀ j,(enc j).size=ps.size) (own:Nat) (I:Nat->World->Prop) (Ix:Code->World->Prop)
  (hI:∀ j W W',I j W->Chg (fun q=>z<=q/\q < z+2+own) W W'->I j W') (hIx:∀ c W W',Ix c W->Chg (fun q=>z<=q/\q < z+2+own) W W'->Ix c W') (h0:I 0 w)
  (hseq:∀ (l:Nat) (J:Nat->World->Prop) (Jx:World->Prop) (W:World),W.heap.size=z+2->(∀ j W,J j W->I j W/\z+2<=W.heap.size)->(∀ j W W',J j W->Chg (fun q=>z+2<=q/\q < z+2+own) W W'->J j W')->(∀ W W',Jx W->Chg (fun q=>z+2<=q/\q < z+2+own) W W'->Jx W')->J 0 W ->
   (∀ j W,j < N->J j W->z+2+own<=W.heap.size->YieldAt Fence.wide (m - 1 - 1) P l (enc j) W fun e W'=>(e=.returned (.bool true)/\J (j+1) W'/\KN (z+2) own W W')\/(e=.returned (.bool false)/\Jx W'/\KN (z+2) own W W')) ->
   CallsIn Fence.wide (m - 1) P gf (#[.func (.yield l) #[] #[]]++lb) W fun e W'=>(∃ v,e=.returned v)/\(J N W'\/Jx W'))
  (hbody:∀ (l j:Nat) (W:World),j < N->I j W->z+2+own<=W.heap.size ->
   assign.wpIn (Fence.wide.inRound l) (m - 1 - 1) P (Exit.then (fun a₁ W₁=>KN z (2+own) W W₁/\z+2+own<=W₁.heap.size/\∀ W₂,Chg (fun q=>q=z+1) W₁ W₂->body.wpIn (Fence.wide.inRound l) (m - 1 - 1) P (rPost z (2+own) I Ix j W₂) a₁ W₂) (fun _ _ _=>False))
    { tmps:=(ps.zip (enc j)).foldl (fun t (p,v)=>t.setIfInBounds p v) a.tmps,defers:=[] } W)
  (hdone:∀ W,I N W->W.heap[z]? = some (.deferred (some []))->Q .normal { a with defers:={ target:=.collected z,args:=#[] } :: a.defers } W)
  (hstop:∀ c W,Ix c W->W.heap[z]? = some (.deferred (some []))->c.wpIn Fence.wide m P Q { a with defers:={ target:=.collected z,args:=#[] } :: a.defers } W) :
  (Code.rangeFunc g ps assign body).wpIn Fence.wide m P Q a w:=by
 refine wpIn_rangeFunc fun fn _=>?_
 obtain ⟨rec,hrec⟩:∃ rec:LoopState->Option Code->Loop,rec=fun st pe=>{ state:=st,pending:=pe,fn,tmps:=a.tmps,params:=ps,assign:=assign,body:=body,defers:=z }:=⟨_,rfl⟩
 obtain ⟨W1,hW1⟩:∃ W1,(w.alloc (.deferred (some []))).alloc (.loop (rec .ready none))=W1:=⟨_,rfl⟩
 have hz1:W1.heap.size=z+2:=by rw [<-hW1];simp [hz]
 have hL1:W1.heap[z+1]? = some (.loop (rec .ready none)):=by
  rw [<-hW1];have:=World.alloc_heap_new (w.alloc (.deferred (some []))) (.loop (rec .ready none));rwa [World.size_alloc,hz] at this
 have hK1:W1.heap[z]? = some (.deferred (some [])):=by
  have h:=World.alloc_heap_new w (.deferred (some []))
  rw [hz] at h
  rw [<-hW1];exact (Below.heap_alloc _ _ _ (by simp [hz])).trans h
 have hC1:∀ S,Chg S w W1:=fun S=>by rw [<-hW1];exact ((Chg.refl S w).alloc _).alloc _
 refine ⟨z+1,[{ target:=.collected z,args:=#[] }],W1,{ target:=.fn (.func gf) lb,args:=#[.func (.yield (z+1)) #[] #[]] },W1,gf,#[.func (.yield (z+1)) #[] #[]]++lb,W1,?_,?_,fun _ _=>trivial,?_,fun _=>by omega,?_⟩
 ·have h:=run_enterLoop_outer (P:=P) (w:=w) fn a.tmps ps assign body
  rw [hz] at h
  rw [<-hW1,hrec]
  exact h
 ·unfold resolve rangeCall
  dsimp only
  rw [hg]
  simp [go_sem]
 ·simp [invoke,go_sem,eg]
 ·have hy:∀ (W:World) (xs:Array Value),xs.size=ps.size->W.heap[z+1]? = some (.loop (rec .ready none))->(Instr.yield (z+1) xs).run P W=.ok (.round (z+1) fn ((ps.zip xs).foldl (fun t (p,v)=>t.setIfInBounds p v) a.tmps) assign body) W:=fun W xs hs h=>by
   have h:=run_yield (P:=P) (args:=xs) h (by rw [hrec];exact hs)
   rw [hrec] at h
   simpa using h
  have hput:∀ (W:World) (o:Obj) (j:Nat),I j W->I j (W.putObj (z+1) o):=fun W o j h=>hI j _ _ h (chg_putObj o (by omega))
  refine (hseq (z+1) (fun j W=>I j W/\z+2<=W.heap.size/\W.heap[z+1]? = some (.loop (rec .ready none))/\W.heap[z]? = some (.deferred (some []))) (fun W=>∃ c,Ix c W/\W.heap[z+1]? = some (.loop (rec .done (some c)))/\W.heap[z]? = some (.deferred (some [])))
   W1 hz1 (fun j W h=>⟨h.1,h.2.1⟩) (fun j W W' h hc=>⟨hI j _ _ h.1 (hc.mono fun _ _ hf=>by omega),Nat.le_trans h.2.1 hc.size,(hc.block _ (by have:=h.2.1;omega) (fun hf=>by omega)).trans h.2.2.1,(hc.block _ (by have:=h.2.1;omega) (fun hf=>by omega)).trans h.2.2.2⟩) (fun W W' ⟨c,h1,h2,h3⟩ hc=>⟨c,hIx c _ _ h1 (hc.mono fun _ _ hf=>by omega),(hc.block _ (Array.getElem?_eq_some_iff.1 h2).1 (fun hf=>by omega)).trans h2,(hc.block _ (Array.getElem?_eq_some_iff.1 h3).1 (fun hf=>by omega)).trans h3⟩) ⟨hI 0 _ _ h0 (hC1 _),by omega,hL1,hK1⟩ ?hY).mono ?fin
  case hY =>
   rintro j W hj ⟨hij,hsz,hr,hd⟩ hown
   refine ⟨fn,_,assign,body,hy W _ (hps j) hr,roundIn_of_wpIn trivial ?_⟩
   refine wpIn_mono (hbody (z+1) j W hj hij hown) ?_
   intro e a1 W₁ hq
   cases e <;> try exact hq
   obtain ⟨hk,hs1,hb⟩:=hq
   have hr1:=(hk (z+1) (by omega) (by omega)).trans hr
   have hd1:=(hk z (by omega) (by omega)).trans hd
   have hbr:=run_beginRound (P:=P) hr1 (by rw [hrec])
   refine ⟨_,hbr,?_⟩
   obtain ⟨W2,hW2⟩:∃ W2,W₁.putObj (z+1) (.loop { rec .ready none with state:=.busy })=W2:=⟨_,rfl⟩
   have hc2:Chg (fun q=>q=z+1) W₁ W2:=by rw [<-hW2];exact chg_putObj _ rfl
   have hr2:W2.heap[z+1]? = some (.loop { rec .ready none with state:=.busy }):=by rw [<-hW2];exact World.putObj_heap_same (Array.getElem?_eq_some_iff.1 hr1).1
   have hd2:=(hc2.block z (by omega) (by omega)).trans hd1
   rw [hW2]
   refine wpIn_mono (hb W2 hc2) ?_
   have fin:∀ (W':World) (jump:Option Code),KN z (2+own) W2 W'->∃ W3,(Instr.endRound (z+1) jump).run P W'=.ok (.bool jump.isNone) W3/\Chg (fun q=>z<=q/\q < z+2+own) W' W3/\KN (z+2) own W W3/\W3.heap[z+1]? = some (.loop (rec (if jump.isNone then .ready else .done) jump))/\W3.heap[z]? = some (.deferred (some []))/\z+2<=W3.heap.size:=by
    intro W' jump hk'
    have hr':=(hk' (z+1) (by omega) (by omega)).trans hr2
    have hl':=(Array.getElem?_eq_some_iff.1 hr').1
    have hend:=run_endRound (P:=P) jump hr'
    have hcp:=fun o=>chg_putObj (W:=W') (l:=z+1) (S:=fun q=>q=z+1) o rfl
    refine ⟨_,hend,chg_putObj _ (by omega),?_,?_,((hcp _).block z (by omega) (by omega)).trans ((hk' z (by omega) (by omega)).trans hd2),Nat.le_trans (by omega) (hcp _).size⟩
    ·intro q g1 g2
     rw [show (W'.putObj (z+1) _).heap[q]? = W'.heap[q]? from World.putObj_heap_other (by omega)]
     rw [hk' q (by omega) (by omega),hc2.block q (by omega) (by omega)]
     exact hk q (by omega) (by omega)
    simp only [hrec]
    exact World.putObj_heap_same hl'
   intro e a' W' hq
   cases e with
   | normal =>
    obtain ⟨hk',hi'⟩:=hq
    obtain ⟨W3,he3,hc3,hkn,hr3,hd3,hs3⟩:=fin W' none hk'
    exact ⟨_,W3,he3,.inl ⟨rfl,⟨hI _ _ _ hi' hc3,hs3,hr3,hd3⟩,hkn⟩⟩
   | ret =>
    obtain ⟨hk',hi'⟩:=hq
    obtain ⟨W3,he3,hc3,hkn,hr3,hd3,hs3⟩:=fin W' (some .ret) hk'
    exact ⟨_,W3,he3,.inr ⟨rfl,⟨.ret,hIx _ _ _ hi' hc3,hr3,hd3⟩,hkn⟩⟩
   | exit id =>
    obtain ⟨hk',hi'⟩:=hq
    obtain ⟨W3,he3,hc3,hkn,hr3,hd3,hs3⟩:=fin W' (some (.exit id)) hk'
    exact ⟨_,W3,he3,.inr ⟨rfl,⟨.exit id,hIx _ _ _ hi' hc3,hr3,hd3⟩,hkn⟩⟩
   | goto t =>
    obtain ⟨hk',hi'⟩:=hq
    obtain ⟨W3,he3,hc3,hkn,hr3,hd3,hs3⟩:=fin W' (some (.goto t)) hk'
    exact ⟨_,W3,he3,.inr ⟨rfl,⟨.goto t,hIx _ _ _ hi' hc3,hr3,hd3⟩,hkn⟩⟩
   | panic c=>exact hq.elim
   | outgrown=>exact hq.elim
  case fin =>
   rintro e W2 ⟨⟨v,rfl⟩,(⟨hij,hs,hr,hd⟩ | ⟨c,hix,hr,hd⟩)⟩
   ·refine ⟨none,_,by have:=run_endLoop (P:=P) hr (by rw [hrec];simp);rw [hrec] at this;exact this,?_⟩
    exact hdone _ (hput _ _ _ hij) (((chg_putObj (S:=fun q=>q=z+1) _ rfl).block z (by omega) (by omega)).trans hd)
   ·refine ⟨some c,_,by have:=run_endLoop (P:=P) hr (by rw [hrec];simp);rw [hrec] at this;exact this,?_⟩
    have hlz:=(Array.getElem?_eq_some_iff.1 hd).1
    exact hstop c _ (hIx _ _ _ hix (chg_putObj _ (by omega))) (((chg_putObj (S:=fun q=>q=z+1) _ rfl).block z hlz (by omega)).trans hd)
theorem own_chgS {S:Nat->Prop} {w w':World} {B e sz n:Nat} {v:Value} {xs:List Value} (h:w.ownsRow B e sz v n xs) (hc:Chg S w w') (hS:∀ g,v.ownBlock=some g->¬ S g):w'.ownsRow B e sz v n xs:=by
 refine ⟨h.1,h.2.imp_right ?_⟩
 rintro ⟨g,cap,cur,rfl,hg,hc1,r⟩
 exact ⟨g,cap,cur,rfl,hg,(hc.block g (Array.getElem?_eq_some_iff.1 hc1).1 (hS g rfl)).trans hc1,r⟩
theorem wpListIn_append_rd {F:Fence} {n:Nat} {P:Program} (w:World) {ops:Array Oper} {rest:List Oper} {o:Oper} {a:Act} {Q:Exit->Act->World->Prop} (hgd:o.guard=none) (s x:Operand) (t:TypeId)
  (ho:o.op=.call { callee:=.builtin .append,args:=#[s,x],argTypes:=#[t,t] })
  (base:Nat) (e:TypeId) (i:TypeInfo) (z:Value) (size bytes:Nat) (ht:P.underlying t=some (.slice e)) (hi:P.info? e=some i) (hz:i.zero=some z)
  (hsize:i.size=size) (hby:i.bytes=bytes) (hzs:z.cells.size=size) (hsz:0 < size)
  (v:Value) (k:Nat) (xs:List Value) (hs:a.eval s=v) (hown:w.ownsRow base e size v k xs)
  (A:Addr) (m c:Nat) (news:List Value) (hx:a.eval x=.slice (some A) m c) (hl:news.length=m * size) (hr:Rd w (some A) news) (h1:∀ u ∈ news,u.oneCell'=true)
  (h63:k+m<=maxLen) (hbytes:(k+m) * bytes<=140737488355328) (hbase:base<=w.heap.size)
  (h:∀ v' w',w'.ownsRow base e size v' (k+m) (xs++news)->w.grownBy w' v.ownBlock->wpListIn F n P ops Q rest (a.put o.dst v') w'):wpListIn F n P ops Q (o :: rest) a w :=
 wpListIn_append_own w hgd s x t ho base e i z size bytes ht hi hz hsize hby hzs hsz v k xs hs hown A m c news hx hl hr.addr h1 h63 hbytes hbase fun v' w' h2 h3 _=>h v' w' h2 h3
end Go.Proofs.YtpmfdlghckfgiaaGreat
set_option linter.unusedVariables false
set_option maxRecDepth 100000
set_option maxHeartbeats 16000000
namespace Go.Proofs.YtpmfdlghckfgiaaGreat
def regUpB (md:Region.Mode) (ops:Array Oper):Bool:=(List.range ops.size).all fun i=>((ops[i]?).map fun o=>o.after.all fun e => !Region.binds md e || decide (e.on < i)).getD true
theorem regUpB_spec {md:Region.Mode} {ops:Array Oper} (h:regUpB md ops=true) {i:Nat} {o:Oper} (ho:ops[i]? = some o):∀ e ∈ o.after,Region.binds md e=true->e.on < i:=by
 have hi:i < ops.size:=(Array.getElem?_eq_some_iff.1 ho).1
 unfold regUpB at h
 rw [List.all_eq_true] at h
 have h1:=h i (List.mem_range.2 hi)
 rw [ho] at h1
 intro e he hb
 simp only [Option.map_some,Option.getD_some] at h1
 have h2:=(Array.all_eq_true'.1 h1) e he
 rw [hb] at h2
 simpa using h2
theorem wpAny_invB {P:Program} {md:Region.Mode} {ops:Array Oper} {Q:Exit->Act->World->Prop} (hup:regUpB md ops=true) (I:(Nat->Bool)->Act->World->Prop)
  (hstep:∀ f a w i o,ops[i]? = some o->f i=false->(∀ e ∈ o.after,Region.binds md e=true->f e.on=true)->I f a w->wpList P ops (Exit.then (fun a' w'=>I (fun k=>decide (k=i) || f k) a' w') Q) [o] a w)
  (hdone:∀ f a w,(∀ i,i < ops.size->f i=true)->I f a w->Q .normal a w) :
  ∀ (fuel:Nat) (listed:Array Bool) (a:Act) (w:World),listed.size=ops.size->((List.range ops.size).filter fun i => !listed.getD i true).length<=fuel->I (fun k=>listed.getD k true) a w->wpAny P md ops Q fuel listed a w:=by
 have hall:∀ (listed:Array Bool),listed.size=ops.size->Region.ready md ops listed=[]->∀ i,i < ops.size->listed.getD i true=true:=by
  intro listed hsz hr i
  induction i using Nat.strongRecOn with
  | _ i ih =>
   intro hi
   cases hb:listed.getD i true with
   | true=>rfl
   | false =>
    exfalso
    have ho:ops[i]? = some ops[i]:=Array.getElem?_eq_getElem hi
    have:i ∈ Region.ready md ops listed:=mem_ready.2 ⟨hb,ops[i],ho,fun e he hb2=>by
     have h1:=regUpB_spec hup ho e he hb2
     have h2:=ih e.on h1 (by omega)
     have h3:e.on < listed.size:=by omega
     simp only [Array.getD_eq_getD_getElem?,Array.getElem?_eq_getElem h3,Option.getD_some] at h2 ⊢
     exact h2⟩
    rw [hr] at this
    cases this
 intro fuel
 induction fuel with
 | zero =>
  intro listed a w hsz hc hI
  have hnil:Region.ready md ops listed=[]:=by
   cases hr:Region.ready md ops listed with
   | nil=>rfl
   | cons x xs =>
    have hx:x ∈ Region.ready md ops listed:=by rw [hr];exact List.mem_cons_self ..
    obtain ⟨h1,o,h2,-⟩:=mem_ready.1 hx
    have h3:x ∈ (List.range ops.size).filter fun i => !listed.getD i true:=List.mem_filter.2 ⟨List.mem_range.2 (Array.getElem?_eq_some_iff.1 h2).1,by rw [h1];rfl⟩
    have:=List.length_pos_of_mem h3
    omega
  exact ⟨hnil,hdone _ a w (hall listed hsz hnil) hI⟩
 | succ fuel ih =>
  intro listed a w hsz hc hI
  refine ⟨fun hr=>hdone _ a w (hall listed hsz hr) hI,fun i hi=>?_⟩
  obtain ⟨h1,o,h2,h3⟩:=mem_ready.1 hi
  have hlt:i < ops.size:=(Array.getElem?_eq_some_iff.1 h2).1
  refine wpOp_mono (fun a' w' h=>?_) (wpOp_of_list h2 (hstep _ a w i o h2 h1 (fun e he hb=>by
   have h4:=h3 e he hb
   have h5:=regUpB_spec hup h2 e he hb
   have h6:e.on < listed.size:=by omega
   simp only [Array.getD_eq_getD_getElem?,Array.getElem?_eq_getElem h6,Option.getD_some] at h4 ⊢
   exact h4) hI))
  have hfn:(fun k=>decide (k=i) || listed.getD k true)=fun k=>(listed.setIfInBounds i true).getD k true:=by
   funext k
   by_cases hk:k=i
   ·subst hk
    simp [Array.getD_eq_getD_getElem?,hsz,hlt]
   ·rw [getD_set_ne true (fun e=>hk e.symm)]
    simp [hk]
  refine ih _ a' w' (by simpa using hsz) ?_ (by rw [<-hfn];exact h)
  have hf:((List.range ops.size).filter fun k => !(listed.setIfInBounds i true).getD k true)=((List.range ops.size).filter fun k => !listed.getD k true).filter fun k => !decide (k=i):=by
   rw [List.filter_filter]
   congr 1
   funext k
   rw [<-congrFun hfn k]
   cases decide (k=i) <;> simp
  have hmem:i ∈ (List.range ops.size).filter fun k => !listed.getD k true:=List.mem_filter.2 ⟨List.mem_range.2 hlt,by rw [h1];rfl⟩
  have hlt2:(((List.range ops.size).filter fun k => !listed.getD k true).filter fun k => !decide (k=i)).length < ((List.range ops.size).filter fun k => !listed.getD k true).length :=
   List.length_filter_lt_length_iff_exists.2 ⟨i,hmem,by simp⟩
  rw [hf]
  omega
theorem wp_region_invB {P:Program} {ops:Array Oper} {Q:Exit->Act->World->Prop} {id:Nat} {a:Act} {w:World} (hm:P.follows .mixedOrders=true) (hup:regUpB .any ops=true) (I:Act->World->(Nat->Bool)->Act->World->Prop)
  (h0:I a w (fun k=>decide (ops.size<=k)) a w.drew)
  (hstep:∀ f a' w' i o,ops[i]? = some o->f i=false->(∀ e ∈ o.after,Region.binds .any e=true->f e.on=true)->I a w f a' w'->wpList P ops (Exit.then (fun a'' w''=>I a w (fun k=>decide (k=i) || f k) a'' w'') Q) [o] a' w')
  (hdone:∀ f a' w',(∀ i,i < ops.size->f i=true)->I a w f a' w'->Q .normal a' w'):(Code.region id ops true).wp P Q a w:=by
 refine wp_region_any hm (wpAny_invB hup (I a w) hstep hdone ops.size _ a _ (by simp) ?_ ?_)
 ·exact Nat.le_trans (List.length_filter_le _ _) (by simp)
 ·have e:(fun k=>(Array.replicate ops.size false).getD k true)=fun k=>decide (ops.size<=k):=by
   funext k
   by_cases hk:k < ops.size
   ·simp [Array.getD_eq_getD_getElem?,hk]
   ·simp [Array.getD_eq_getD_getElem?,hk];omega
  rw [e]
  exact h0
end Go.Proofs.YtpmfdlghckfgiaaGreat
set_option linter.unusedVariables false
set_option maxRecDepth 100000
set_option maxHeartbeats 16000000
namespace Go.Proofs.YtpmfdlghckfgiaaGreat
theorem wpOpIn_of_list {F:Fence} {n:Nat} {P:Program} {ops:Array Oper} {Q:Exit->Act->World->Prop} {i:Nat} {o:Oper} {K:Act->World->Prop} {a:Act} {w:World} (ho:ops[i]? = some o) (h:wpListIn F n P ops (Exit.then K Q) [o] a w):wpOpIn F n P ops Q i K a w:=by
 unfold wpOpIn
 simp only [ho]
 unfold wpListIn at h
 split
 ·rename_i hw
  simp only [hw,if_true] at h
  unfold Oper.wpIn at *
  refine ⟨h.1,?_⟩
  have h:=h.2
  generalize (o.semAt F.round a.eval).run P w=r at *
  cases r with
  | ok x w' =>
   cases x <;> simp only [Oper.uponIn] at h ⊢ <;>
    first
     | exact h
     | exact ⟨h.1,CallsIn.mono h.2 (fun e w'' he=>by cases e <;> exact he)⟩
     | exact ⟨h.1,RowsIn.mono h.2 (fun _ _ he=>he)⟩
     | exact ⟨h.1,RoundIn.mono h.2 (fun e w'' he=>by cases e <;> exact he)⟩
  | halt x w'=>cases x <;> simp only [Oper.uponIn] at h ⊢ <;> exact h
 ·rename_i hw
  simp only [hw] at h
  exact h
theorem wpAnyIn_invB {F:Fence} {n:Nat} {P:Program} {md:Region.Mode} {ops:Array Oper} {Q:Exit->Act->World->Prop} (hup:regUpB md ops=true) (I:(Nat->Bool)->Act->World->Prop)
  (hstep:∀ f a w i o,ops[i]? = some o->f i=false->(∀ e ∈ o.after,Region.binds md e=true->f e.on=true)->I f a w->wpListIn F n P ops (Exit.then (fun a' w'=>I (fun k=>decide (k=i) || f k) a' w') Q) [o] a w)
  (hdone:∀ f a w,(∀ i,i < ops.size->f i=true)->I f a w->Q .normal a w) :
  ∀ (fuel:Nat) (listed:Array Bool) (a:Act) (w:World),listed.size=ops.size->((List.range ops.size).filter fun i => !listed.getD i true).length<=fuel->I (fun k=>listed.getD k true) a w->wpAnyIn F n P md ops Q fuel listed a w:=by
 have hall:∀ (listed:Array Bool),listed.size=ops.size->Region.ready md ops listed=[]->∀ i,i < ops.size->listed.getD i true=true:=by
  intro listed hsz hr i
  induction i using Nat.strongRecOn with
  | _ i ih =>
   intro hi
   cases hb:listed.getD i true with
   | true=>rfl
   | false =>
    exfalso
    have ho:ops[i]? = some ops[i]:=Array.getElem?_eq_getElem hi
    have:i ∈ Region.ready md ops listed:=mem_ready.2 ⟨hb,ops[i],ho,fun e he hb2=>by
     have h1:=regUpB_spec hup ho e he hb2
     have h2:=ih e.on h1 (by omega)
     have h3:e.on < listed.size:=by omega
     simp only [Array.getD_eq_getD_getElem?,Array.getElem?_eq_getElem h3,Option.getD_some] at h2 ⊢
     exact h2⟩
    rw [hr] at this
    cases this
 intro fuel
 induction fuel with
 | zero =>
  intro listed a w hsz hc hI
  have hnil:Region.ready md ops listed=[]:=by
   cases hr:Region.ready md ops listed with
   | nil=>rfl
   | cons x xs =>
    have hx:x ∈ Region.ready md ops listed:=by rw [hr];exact List.mem_cons_self ..
    obtain ⟨h1,o,h2,-⟩:=mem_ready.1 hx
    have h3:x ∈ (List.range ops.size).filter fun i => !listed.getD i true:=List.mem_filter.2 ⟨List.mem_range.2 (Array.getElem?_eq_some_iff.1 h2).1,by rw [h1];rfl⟩
    have:=List.length_pos_of_mem h3
    omega
  exact ⟨hnil,hdone _ a w (hall listed hsz hnil) hI⟩
 | succ fuel ih =>
  intro listed a w hsz hc hI
  refine ⟨fun hr=>hdone _ a w (hall listed hsz hr) hI,fun i hi=>?_⟩
  obtain ⟨h1,o,h2,h3⟩:=mem_ready.1 hi
  have hlt:i < ops.size:=(Array.getElem?_eq_some_iff.1 h2).1
  refine wpOpIn_mono (fun a' w' h=>?_) (wpOpIn_of_list h2 (hstep _ a w i o h2 h1 (fun e he hb=>by
   have h4:=h3 e he hb
   have h5:=regUpB_spec hup h2 e he hb
   have h6:e.on < listed.size:=by omega
   simp only [Array.getD_eq_getD_getElem?,Array.getElem?_eq_getElem h6,Option.getD_some] at h4 ⊢
   exact h4) hI))
  have hfn:(fun k=>decide (k=i) || listed.getD k true)=fun k=>(listed.setIfInBounds i true).getD k true:=by
   funext k
   by_cases hk:k=i
   ·subst hk
    simp [Array.getD_eq_getD_getElem?,hsz,hlt]
   ·rw [getD_set_ne true (fun e=>hk e.symm)]
    simp [hk]
  refine ih _ a' w' (by simpa using hsz) ?_ (by rw [<-hfn];exact h)
  have hf:((List.range ops.size).filter fun k => !(listed.setIfInBounds i true).getD k true)=((List.range ops.size).filter fun k => !listed.getD k true).filter fun k => !decide (k=i):=by
   rw [List.filter_filter]
   congr 1
   funext k
   rw [<-congrFun hfn k]
   cases decide (k=i) <;> simp
  have hmem:i ∈ (List.range ops.size).filter fun k => !listed.getD k true:=List.mem_filter.2 ⟨List.mem_range.2 hlt,by rw [h1];rfl⟩
  have hlt2:(((List.range ops.size).filter fun k => !listed.getD k true).filter fun k => !decide (k=i)).length < ((List.range ops.size).filter fun k => !listed.getD k true).length :=
   List.length_filter_lt_length_iff_exists.2 ⟨i,hmem,by simp⟩
  rw [hf]
  omega
theorem wpIn_region_invB {F:Fence} {n:Nat} {P:Program} {ops:Array Oper} {Q:Exit->Act->World->Prop} {id:Nat} {a:Act} {w:World} (hm:P.follows .mixedOrders=true) (hup:regUpB .any ops=true) (I:Act->World->(Nat->Bool)->Act->World->Prop)
  (h0:I a w (fun k=>decide (ops.size<=k)) a w.drew)
  (hstep:∀ f a' w' i o,ops[i]? = some o->f i=false->(∀ e ∈ o.after,Region.binds .any e=true->f e.on=true)->I a w f a' w'->wpListIn F n P ops (Exit.then (fun a'' w''=>I a w (fun k=>decide (k=i) || f k) a'' w'') Q) [o] a' w')
  (hdone:∀ f a' w',(∀ i,i < ops.size->f i=true)->I a w f a' w'->Q .normal a' w'):(Code.region id ops true).wpIn F n P Q a w:=by
 refine wpIn_region_any hm (wpAnyIn_invB hup (I a w) hstep hdone ops.size _ a _ (by simp) ?_ ?_)
 ·exact Nat.le_trans (List.length_filter_le _ _) (by simp)
 ·have e:(fun k=>(Array.replicate ops.size false).getD k true)=fun k=>decide (ops.size<=k):=by
   funext k
   by_cases hk:k < ops.size
   ·simp [Array.getD_eq_getD_getElem?,hk]
   ·simp [Array.getD_eq_getD_getElem?,hk];omega
  rw [e]
  exact h0
end Go.Proofs.YtpmfdlghckfgiaaGreat
