/- The document's Decode. -/
import Derived.Test.YtpmfdlghckfgiaaGreatG27
import Derived.Test.YtpmfdlghckfgiaaGreatG20
import Derived.Test.YtpmfdlghckfgiaaGreatG12
import Derived.Test.YtpmfdlghckfgiaaGreatG0
set_option linter.unusedVariables false
set_option maxRecDepth 100000
set_option maxHeartbeats 16000000
namespace Go.Proofs.YtpmfdlghckfgiaaGreat
open Go.RowKit
theorem of_lenD (k o:Int) (W:World) (hk0:0<=k) (hk:k<=255) (ho1 : -9223372036854775808<=o) (ho2:o<=9223372036854775807) {nO:Nat} (hn:(ofL k o).length=nO):Calls Tryz.prog 21 #[.int .u8 k,.int .i64 o] W fun e w'=>∃ A c,e=.returned (.slice A nO c)/\Below W.heap.size W w':=by
 refine (r8of_any k o W hk0 hk ho1 ho2).mono ?_
 rintro e w' ⟨A,c,rfl,-,hb⟩
 exact ⟨A,c,by rw [hn],hb⟩
theorem rbel_cases (k v:Int) (num fw:Int) (fn:Nat) (fA:Option Addr) (xl fc:Nat) (fat:Int) (hk0:0<=k) (hk:k<=255) (hv1 : -9223372036854775808<=v) (hv2:v<=9223372036854775807) :
  (ownR (ofL k v) num fw=none->∃ a b c:Nat,∀ w,Calls Tryz.prog 23 #[.int .u8 k,.int .i64 v,.agg #[.int .i64 num,.int .u8 fw,.int .u64 (fn:Int),.slice fA xl fc,.int .i64 fat]] w fun e w'=>e=.returned (.tuple #[.agg #[.int .i64 (a:Int),.int .i64 (b:Int),.int .i64 (c:Int)],.bool false])/\Below w.heap.size w w') /\
  (∀ r,ownR (ofL k v) num fw=some r->∀ w,Calls Tryz.prog 23 #[.int .u8 k,.int .i64 v,.agg #[.int .i64 num,.int .u8 fw,.int .u64 (fn:Int),.slice fA xl fc,.int .i64 fat]] w fun e w'=>e=.returned (.tuple #[.agg #[.int .i64 (r.num:Int),.int .i64 (r.typ:Int),.int .i64 (r.slot:Int)],.bool true])/\Below w.heap.size w w'):=by
 have h:=fun w=>rbelongs_any k v num fw fn fA xl fc fat w hk0 hk hv1 hv2
 have hf:=ownR_fin k v num fw
 constructor
 ·intro ho
  obtain ⟨a,b,c,hs,-⟩:=specO_cases (finS k v num)
  refine ⟨a,b,c,fun w=>?_⟩
  have h1:=h w
  rw [hs,ho] at h1
  exact h1
 ·intro r ho w
  have h1:=h w
  rw [ho] at h1 hf
  cases hq:finS k v num with
  | none=>rw [hq] at hf;cases hf
  | some r2 =>
   rw [hq] at hf h1
   simp only at hf
   split at hf
   ·injection hf with hf;subst hf;exact h1
   ·cases hf
theorem chg_cell {S:Nat->Prop} {w w':World} (h:Chg S w w') {p:Addr} (hl:p.block < w.heap.size) (hg:¬ S p.block):w'.cell? p=w.cell? p:=by unfold World.cell?;rw [h.block _ hl hg]
def rWD2 (w:World) (s:Nat) (x0 x1 x2 x3 x4 x5 x6 x7 x8 x9 z0 z1:Value):World:=((((((((((((w.setCell ⟨s,0,none⟩ x0).setCell ⟨s,1,none⟩ x1).setCell ⟨s,2,none⟩ x2).setCell ⟨s,3,none⟩ x3).setCell ⟨s,4,none⟩ x4).setCell ⟨s,5,none⟩ x5).setCell ⟨s,6,none⟩ x6).setCell ⟨s,7,none⟩ x7).setCell ⟨s,8,none⟩ x8).setCell ⟨s,9,none⟩ x9).setCell ⟨s+1,0,none⟩ z0).setCell ⟨s+1,1,none⟩ z1)
theorem rstD2 {w:World} {s:Nat} {o0 o1 o2 o3 o4 o5 o6 o7 o8 o9 q0 q1:Value} (h6:Blk w s 29 #[o0,o1,o2,o3,o4,o5,o6,o7,o8,o9]) (h8:Blk w (s+1) 32 #[q0,q1]) (x0 x1 x2 x3 x4 x5 x6 x7 x8 x9 z0 z1:Value) :
  Blk (rWD2 w s x0 x1 x2 x3 x4 x5 x6 x7 x8 x9 z0 z1) s 29 #[x0,x1,x2,x3,x4,x5,x6,x7,x8,x9]/\Blk (rWD2 w s x0 x1 x2 x3 x4 x5 x6 x7 x8 x9 z0 z1) (s+1) 32 #[z0,z1]/\Chg (fun q=>q=s\/q=s+1) w (rWD2 w s x0 x1 x2 x3 x4 x5 x6 x7 x8 x9 z0 z1):=by
 obtain ⟨h1,h2⟩:=mstore h6 x0 x1 x2 x3 x4 x5 x6 x7 x8 x9
 have k8:=h2.blk h8 (by omega)
 have hc:=h2.mono (T:=fun q=>q=s\/q=s+1) (fun q _ h=>.inl h)
 unfold rWD2
 generalize ((((((((((w.setCell ⟨s,0,none⟩ x0).setCell ⟨s,1,none⟩ x1).setCell ⟨s,2,none⟩ x2).setCell ⟨s,3,none⟩ x3).setCell ⟨s,4,none⟩ x4).setCell ⟨s,5,none⟩ x5).setCell ⟨s,6,none⟩ x6).setCell ⟨s,7,none⟩ x7).setCell ⟨s,8,none⟩ x8).setCell ⟨s,9,none⟩ x9)=W at *
 refine ⟨(h1.far (p:=⟨s+1,0,none⟩) (by show ¬ s=s+1;omega) z0).far (p:=⟨s+1,1,none⟩) (by show ¬ s=s+1;omega) z1,?_,?_⟩
 ·have:=(k8.set_ 0 z0).set_ 1 z1
  simpa using this
 ·exact (hc.set_ (.inl (.inr rfl)) 0 z0).set_ (.inl (.inr rfl)) 1 z1
structure RdK (s q:Nat) (w w2:World) (L:List SRow) (M0:MV) (FS:List (RF × Nat)) (j:Nat) (M:MV) (A:Option Addr) (c:Nat) (W:World):Prop where
 km:Blk W s 29 #[.int .u8 0,.int .u64 0,.int .u64 0,.int .u64 0,.int .u64 0,.int .u64 0,.int .u64 0,.string ⟨#[]⟩,.string ⟨#[]⟩,.slice none 0 0]
 kf:Blk W (s+1) 32 #[.int .i64 0,.int .i64 0]
 mm:Blk W (q+1) 29 #[.int .u8 (M.k:Int),.int .u64 (M.n0:Int),.int .u64 (M.n1:Int),.int .u64 (M.n2:Int),.int .u64 (M.n3:Int),.int .u64 (M.n4:Int),.int .u64 (M.n5:Int),.string M.s0,.string M.s1,.slice A M.l.length c]
 om:W.ownsRow s 9 1 (.slice A M.l.length c) M.l.length (M.l.map sv)
 bel:Below s w W
 bq:Below q w2 W
 len:M.l.length<=64
 fin:(decF L M0 FS).1=(decF L M (FS.drop j)).1/\(decF L M0 FS).2.2=(decF L M (FS.drop j)).2.2
theorem RdK.next {s q:Nat} {w w2:World} {L:List SRow} {M0:MV} {FS:List (RF × Nat)} {j:Nat} {M:MV} {A:Option Addr} {c:Nat} {W W':World} (h:RdK s q w w2 L M0 FS j M A c W) (hq:s+2<=q) (hb:Below W.heap.size W W') (r:RF × Nat) (hr:FS[j]? = some r) (ho:ownR L r.1.num r.1.w=none):RdK s q w w2 L M0 FS (j+1) M A c W':=by
 have l:=h.mm.lt
 refine ⟨h.km.below hb h.km.lt,h.kf.below hb h.kf.lt,h.mm.below hb l,own_below h.om hb,h.bel.trans (hb.mono (by have:=h.km.lt;omega)),h.bq.trans (hb.mono (by omega)),h.len,?_⟩
 obtain ⟨h1,h2⟩:=List.getElem?_eq_some_iff.1 hr
 have hd:FS.drop j=r :: FS.drop (j+1):=by rw [List.drop_eq_getElem_cons h1,h2]
 have hf:=h.fin
 rw [hd,decF_none ho] at hf
 exact hf
theorem RdK.bad {s q:Nat} {w w2:World} {L:List SRow} {M0:MV} {FS:List (RF × Nat)} {j:Nat} {M:MV} {A:Option Addr} {c:Nat} {W:World} (h:RdK s q w w2 L M0 FS j M A c W) (r:RF × Nat) (hr:FS[j]? = some r) (x:SRow) (ho:ownR L r.1.num r.1.w=some x) (he:setE M (x.typ:Int) (x.slot:Int) (rfS r) ≠ 0):(decF L M0 FS).2.2=(setE M (x.typ:Int) (x.slot:Int) (rfS r),r.2):=by
 obtain ⟨h1,h2⟩:=List.getElem?_eq_some_iff.1 hr
 have hd:FS.drop j=r :: FS.drop (j+1):=by rw [List.drop_eq_getElem_cons h1,h2]
 have hf:=h.fin.2
 rw [hd,decF_bad ho he] at hf
 exact hf
theorem decF_step {L:List SRow} {M0 M:MV} {FS:List (RF × Nat)} {j:Nat} (r:RF × Nat) (hr:FS[j]? = some r) (x:SRow) (ho:ownR L r.1.num r.1.w=some x) (he:setE M (x.typ:Int) (x.slot:Int) (rfS r)=0) (hf:(decF L M0 FS).1=(decF L M (FS.drop j)).1/\(decF L M0 FS).2.2=(decF L M (FS.drop j)).2.2):(decF L M0 FS).1=(decF L (setM M (x.typ:Int) (x.slot:Int) r.1.n (rfS r)) (FS.drop (j+1))).1/\(decF L M0 FS).2.2=(decF L (setM M (x.typ:Int) (x.slot:Int) r.1.n (rfS r)) (FS.drop (j+1))).2.2:=by
 obtain ⟨h1,h2⟩:=List.getElem?_eq_some_iff.1 hr
 have hd:FS.drop j=r :: FS.drop (j+1):=by rw [List.drop_eq_getElem_cons h1,h2]
 rw [hd,decF_ok ho he] at hf
 exact hf
def RcR7 (s q:Nat) (E P:Int) (a0:Act) (w0:World) (f:Nat->Bool) (a:Act) (w:World):Prop:=∃ x0 x1:Value,a=((a0.put (some 36) x0).put (some 37) x1)/\(f 0=true->x0=.agg #[.int .u8 0,.int .u64 0,.int .u64 0,.int .u64 0,.int .u64 0,.int .u64 0,.int .u64 0,.string ⟨#[]⟩,.string ⟨#[]⟩,.slice none 0 0])/\(f 1=true->x1=.agg #[.int .i64 E,.int .i64 P])/\Blk w (s) 29 (if f 2=true then #[.int .u8 0,.int .u64 0,.int .u64 0,.int .u64 0,.int .u64 0,.int .u64 0,.int .u64 0,.string ⟨#[]⟩,.string ⟨#[]⟩,.slice none 0 0] else #[.int .u8 0,.int .u64 0,.int .u64 0,.int .u64 0,.int .u64 0,.int .u64 0,.int .u64 0,.string ⟨#[]⟩,.string ⟨#[]⟩,.slice none 0 0])/\Blk w (s+1) 32 (if f 3=true then #[.int .i64 E,.int .i64 P] else #[.int .i64 0,.int .i64 0])/\Chg (fun q=>q=s\/q=s+1) w0 w
def RcR16 (s bl ol j np cl:Nat) (E at_:Int) (a0:Act) (w0:World) (f:Nat->Bool) (a:Act) (w:World):Prop:=∃ x0 x1 x2 x3 x4 x5 x6 x7:Value,a=((((((((a0.put (some 70) x0).put (some 71) x1).put (some 72) x2).put (some 73) x3).put (some 74) x4).put (some 75) x5).put (some 76) x6).put (some 77) x7)/\(f 0=true->x0=.agg #[.int .u8 0,.int .u64 0,.int .u64 0,.int .u64 0,.int .u64 0,.int .u64 0,.int .u64 0,.string ⟨#[]⟩,.string ⟨#[]⟩,.slice none 0 0])/\(f 1=true->x1=.int .i64 E)/\(f 2=true->x2=.slice (some ⟨bl,ol,none⟩) np cl)/\(f 3=true->x3=.int .i64 (j:Int))/\(f 4=true->x4=.pointer (some ⟨bl,ol+j * 5,none⟩))/\(f 5=true->x5=.pointer (some ⟨bl,ol+j * 5+4,none⟩))/\(f 6=true->x6=.int .i64 at_)/\(f 7=true->x7=.agg #[.int .i64 E,.int .i64 at_])/\Blk w (s) 29 (if f 8=true then #[.int .u8 0,.int .u64 0,.int .u64 0,.int .u64 0,.int .u64 0,.int .u64 0,.int .u64 0,.string ⟨#[]⟩,.string ⟨#[]⟩,.slice none 0 0] else #[.int .u8 0,.int .u64 0,.int .u64 0,.int .u64 0,.int .u64 0,.int .u64 0,.int .u64 0,.string ⟨#[]⟩,.string ⟨#[]⟩,.slice none 0 0])/\Blk w (s+1) 32 (if f 9=true then #[.int .i64 E,.int .i64 at_] else #[.int .i64 0,.int .i64 0])/\Chg (fun q=>q=s\/q=s+1) w0 w
def RcR14 (s bl ol j np cl:Nat) (M R:MV) (A1:Option Addr) (c1:Nat) (rnu rty rsl fn xl fc:Nat) (fnum fw fat:Int) (fA:Option Addr) (E:Int) (a0:Act) (w0:World) (f:Nat->Bool) (a:Act) (w:World):Prop:=∃ (x0 x1 x2 x3 x4 x5 x6 x7 x8 x9 x10 x12:Value) (A':Option Addr) (c':Nat),a=((((((((((((a0.put (some 59) x0).put (some 60) x1).put (some 61) x2).put (some 62) x3).put (some 63) x4).put (some 64) x5).put (some 65) x6).put (some 58) x7).put (some 66) x8).put (some 67) x9).put (some 14) x10).put (some 15) x12)/\(f 0=true->x0=.agg #[.int .u8 (M.k:Int),.int .u64 (M.n0:Int),.int .u64 (M.n1:Int),.int .u64 (M.n2:Int),.int .u64 (M.n3:Int),.int .u64 (M.n4:Int),.int .u64 (M.n5:Int),.string M.s0,.string M.s1,.slice A1 M.l.length c1])/\(f 1=true->x1=.agg #[.int .i64 (rnu:Int),.int .i64 (rty:Int),.int .i64 (rsl:Int)])/\(f 2=true->x2=.slice (some ⟨bl,ol,none⟩) np cl)/\(f 3=true->x3=.int .i64 (j:Int))/\(f 4=true->x4=.pointer (some ⟨bl,ol+j * 5,none⟩))/\(f 5=true->x5=.agg #[.int .i64 fnum,.int .u8 fw,.int .u64 (fn:Int),.slice fA xl fc,.int .i64 fat])/\(f 6=true->x6=.tuple #[.agg #[.int .u8 (R.k:Int),.int .u64 (R.n0:Int),.int .u64 (R.n1:Int),.int .u64 (R.n2:Int),.int .u64 (R.n3:Int),.int .u64 (R.n4:Int),.int .u64 (R.n5:Int),.string R.s0,.string R.s1,.slice A' R.l.length c'],.int .i64 E])/\(f 6=true->w.ownsRow s 9 1 (.slice A' R.l.length c') R.l.length (R.l.map sv))/\(f 7=true->f 6=true/\x7=.tuple #[.agg #[.int .u8 (R.k:Int),.int .u64 (R.n0:Int),.int .u64 (R.n1:Int),.int .u64 (R.n2:Int),.int .u64 (R.n3:Int),.int .u64 (R.n4:Int),.int .u64 (R.n5:Int),.string R.s0,.string R.s1,.slice A' R.l.length c'],.int .i64 E])/\(f 8=true->f 6=true/\x8=.agg #[.int .u8 (R.k:Int),.int .u64 (R.n0:Int),.int .u64 (R.n1:Int),.int .u64 (R.n2:Int),.int .u64 (R.n3:Int),.int .u64 (R.n4:Int),.int .u64 (R.n5:Int),.string R.s0,.string R.s1,.slice A' R.l.length c'])/\(f 9=true->f 6=true/\x9=.int .i64 E)/\(f 10=true->∃ g,x10=.pointer (some ⟨g,0,none⟩)/\w0.heap.size<=g/\Blk w g 29 (if f 11=true then #[.int .u8 (R.k:Int),.int .u64 (R.n0:Int),.int .u64 (R.n1:Int),.int .u64 (R.n2:Int),.int .u64 (R.n3:Int),.int .u64 (R.n4:Int),.int .u64 (R.n5:Int),.string R.s0,.string R.s1,.slice A' R.l.length c'] else #[.int .u8 0,.int .u64 0,.int .u64 0,.int .u64 0,.int .u64 0,.int .u64 0,.int .u64 0,.string ⟨#[]⟩,.string ⟨#[]⟩,.slice none 0 0]))/\(f 11=true->f 10=true/\f 8=true)/\(f 12=true->x12=.int .i64 E)/\(f 12=true->f 9=true)/\Below w0.heap.size w0 w
theorem rdec11_any (k:Nat) (v:Int) (bs:List UInt8) (n:Nat) (A:Option Addr) (c:Nat) (w:World) (hk:k<=255) (hv1 : -9223372036854775808<=v) (hv2:v<=9223372036854775807) (hn:bs.length=n) (hs:Sl w A c (bs.map bv)):Calls Tryz.prog 15 #[.int .u8 (k:Int),.int .i64 v,.slice A n c] w (DecR w (readR k v bs)):=by
 obtain ⟨nO,hnO⟩:∃ nO,(ofL (k:Int) v).length=nO:=⟨_,rfl⟩
 have hof:=fun W=>of_lenD (k:Int) v W (by omega) (by omega) hv1 hv2 hnO
 obtain ⟨Q,hQ⟩:∃ Q,Q=DecR w (readR k v bs):=⟨_,rfl⟩
 rw [<-hQ]
 obtain ⟨s,hsz⟩:∃ s,w.heap.size=s:=⟨_,rfl⟩
 have hbad:∀ (E:Int) (P:Nat) w',readR k v bs=(ZM,[],E,P)->Below s w w'->Q (.returned (.tuple #[.agg #[.int .u8 0,.int .u64 0,.int .u64 0,.int .u64 0,.int .u64 0,.int .u64 0,.int .u64 0,.string ⟨#[]⟩,.string ⟨#[]⟩,.slice none 0 0],.agg #[.int .i64 E,.int .i64 (P:Int)]])) w':=fun E P w' h hb=>by
  rw [hQ,h]
  exact ⟨none,0,rfl,World.ownsRow_nil _ _ _ _,by rw [hsz];exact hb⟩
 have hgood:∀ (M:MV) O A' c' w',readR k v bs=(M,O,0,0)->w'.ownsRow s 9 1 (.slice A' M.l.length c') M.l.length (M.l.map sv)->Below s w w'->Q (.returned (.tuple #[.agg #[.int .u8 (M.k:Int),.int .u64 (M.n0:Int),.int .u64 (M.n1:Int),.int .u64 (M.n2:Int),.int .u64 (M.n3:Int),.int .u64 (M.n4:Int),.int .u64 (M.n5:Int),.string M.s0,.string M.s1,.slice A' M.l.length c'],.agg #[.int .i64 0,.int .i64 0]])) w':=fun M O A' c' w' h ho hb=>by
  rw [hQ,h]
  exact ⟨A',c',rfl,by rw [hsz];exact ho,by rw [hsz];exact hb⟩
 have hr1:nO=0->readR k v bs=(ZM,[],7,0):=fun h=>by unfold readR;rw [if_pos (by omega)]
 have hr2:nO ≠ 0->8192 < n->readR k v bs=(ZM,[],2,0):=fun h h2=>by unfold readR;rw [if_neg (by omega),if_pos (by omega)]
 obtain ⟨L,hL⟩:∃ L,ofL (k:Int) v=L:=⟨_,rfl⟩
 obtain ⟨FR,hFR⟩:∃ FR,flds bs n 0=FR:=⟨_,rfl⟩
 obtain ⟨FS,eN,pN⟩:=FR
 have hr3:nO ≠ 0->¬ 8192 < n->eN ≠ 0->readR k v bs=(ZM,[],((eN:Nat):Int),pN):=fun h h2 h3=>by unfold readR;rw [if_neg (by omega),if_neg (by omega),hn,hFR];simp only;rw [if_pos h3]
 have hr4:nO ≠ 0->¬ 8192 < n->eN=0->readR k v bs=if (decF L { ZM with k:=k } FS).2.2.1 ≠ 0 then (ZM,[],(decF L { ZM with k:=k } FS).2.2) else decF L { ZM with k:=k } FS:=fun h h2 h3=>by unfold readR;rw [if_neg (by omega),if_neg (by omega),hn,hFR];simp only;rw [if_neg (by omega),hL]
 have hfl:=fun W (hW:Below s w W) (h:¬ 8192 < n)=>rflds_any bs n A c W hn (by omega) (hs.below (by rw [hsz];exact hW))
 rw [hFR] at hfl
 simp only at hfl
 have hread:∀ pre,fvAll pre FS->pre.length<=n/\∀ f ∈ pre,ReadOk n f:=fun pre h=>by
  have h1:=read_ok bs n 0 pre (by omega) (by rw [hFR];exact h)
  rw [hn] at h1
  exact ⟨by have:=h1.1;omega,h1.2⟩
 have hbc:=fun num fw fn fA xl fc fat=>rbel_cases (k:Int) v num fw fn fA xl fc fat (by omega) (by omega) hv1 hv2
 rw [hL] at hbc
 have HOF:=hid hof
 have HBAD:=hid hbad
 have HGOOD:=hid hgood
 have HR1:=hid hr1
 have HR2:=hid hr2
 have HR3:=hid hr3
 have HR4:=hid hr4
 have HFL:=hid hfl
 have HRD:=hid hread
 have HBC:=hid hbc
 clear hof hbad hgood hr1 hr2 hr3 hr4 hfl hread hbc hs hn hQ hFR hL hnO
 obtain ⟨W0,hW0⟩:∃ W0,((w.alloc (.cells #[.int .u8 0,.int .u64 0,.int .u64 0,.int .u64 0,.int .u64 0,.int .u64 0,.int .u64 0,.string ⟨#[]⟩,.string ⟨#[]⟩,.slice none 0 0] 29)).alloc (.cells #[.int .i64 0,.int .i64 0] 32))=W0:=⟨_,rfl⟩
 have hk6:Blk W0 s 29 #[.int .u8 0,.int .u64 0,.int .u64 0,.int .u64 0,.int .u64 0,.int .u64 0,.int .u64 0,.string ⟨#[]⟩,.string ⟨#[]⟩,.slice none 0 0]:=by rw [<-hW0,<-hsz];exact (Blk.new w _ _).alloc _
 have hk7:Blk W0 (s+1) 32 #[.int .i64 0,.int .i64 0]:=by
  have h:=Blk.new (w.alloc (.cells #[.int .u8 0,.int .u64 0,.int .u64 0,.int .u64 0,.int .u64 0,.int .u64 0,.int .u64 0,.string ⟨#[]⟩,.string ⟨#[]⟩,.slice none 0 0] 29)) 32 #[.int .i64 0,.int .i64 0]
  rw [World.size_alloc,hsz] at h;rw [<-hW0];exact h
 have hb0:Below s w W0:=by rw [<-hW0,<-hsz];exact bw_a (bw_a (Below.refl _ w) _) _
 have HW0:=hid hW0
 have HK6:=hid hk6
 have HK7:=hid hk7
 have HB0:=hid hb0
 clear hW0 hk6 hk7 hb0
 go_enter Tryz.func15,Tryz.ntmps15
 go_wp2_with fail
 rw [HW0.out]
 try rw [hsz]
 refine (HOF.out _).mono ?_
 rintro e w1 ⟨AO,cO,rfl,hb1⟩
 have hk6:=HK6.out.below hb1 HK6.out.lt
 have hk7:=HK7.out.below hb1 HK7.out.lt
 have hb01:Below s w w1:=HB0.out.trans (hb1.mono (by have:=HB0.out.size;omega))
 have HK6:=hid hk6
 have HK7:=hid hk7
 have HB1:=hid hb01
 clear hb1 hk6 hk7 hb01 HW0 HB0
 by_cases hO:nO=0
 ·have e1:((nO:Int) == 0)=true:=by simp [hO]
  have cq0:=HK6.out.cell 0
  have cq1:=HK6.out.cell 1
  have cq2:=HK6.out.cell 2
  have cq3:=HK6.out.cell 3
  have cq4:=HK6.out.cell 4
  have cq5:=HK6.out.cell 5
  have cq6:=HK6.out.cell 6
  have cq7:=HK6.out.cell 7
  have cq8:=HK6.out.cell 8
  have cq9:=HK6.out.cell 9
  have dq0:=HK7.out.cell 0
  have dq1:=HK7.out.cell 1
  simp only [gA,gB,gC] at cq0 cq1 cq2 cq3 cq4 cq5 cq6 cq7 cq8 cq9 dq0 dq1
  have fq0:=HK6.out.frozen 0
  have fq1:=HK6.out.frozen 1
  have fq2:=HK6.out.frozen 2
  have fq3:=HK6.out.frozen 3
  have fq4:=HK6.out.frozen 4
  have fq5:=HK6.out.frozen 5
  have fq6:=HK6.out.frozen 6
  have fq7:=HK6.out.frozen 7
  have fq8:=HK6.out.frozen 8
  have fq9:=HK6.out.frozen 9
  have gq0:=HK7.out.frozen 0
  have gq1:=HK7.out.frozen 1
  go_wp2_with fail
  obtain ⟨r6,r7,rc⟩:=rstD2 HK6.out HK7.out (.int .u8 0) (.int .u64 0) (.int .u64 0) (.int .u64 0) (.int .u64 0) (.int .u64 0) (.int .u64 0) (.string ⟨#[]⟩) (.string ⟨#[]⟩) (.slice none 0 0) (.int .i64 7) (.int .i64 0)
  clear cq0 cq1 cq2 cq3 cq4 cq5 cq6 cq7 cq8 cq9 dq0 dq1 fq0 fq1 fq2 fq3 fq4 fq5 fq6 fq7 fq8 fq9 gq0 gq1
  have hW9:∃ W9,rWD2 w1 s (.int .u8 0) (.int .u64 0) (.int .u64 0) (.int .u64 0) (.int .u64 0) (.int .u64 0) (.int .u64 0) (.string ⟨#[]⟩) (.string ⟨#[]⟩) (.slice none 0 0) (.int .i64 7) (.int .i64 0)=W9:=⟨_,rfl⟩
  obtain ⟨W9,hW9⟩:=hW9
  rw [hW9] at r6 r7 rc
  unfold rWD2 at hW9
  rw [hW9]
  clear hW9
  have x0:=r6.cell 0
  have x1:=r6.cell 1
  have x2:=r6.cell 2
  have x3:=r6.cell 3
  have x4:=r6.cell 4
  have x5:=r6.cell 5
  have x6:=r6.cell 6
  have x7:=r6.cell 7
  have x8:=r6.cell 8
  have x9:=r6.cell 9
  have y0:=r7.cell 0
  have y1:=r7.cell 1
  simp only [gA,gB,gC] at x0 x1 x2 x3 x4 x5 x6 x7 x8 x9 y0 y1
  refine bodyPost_ret (v:=.tuple #[.agg #[.int .u8 0,.int .u64 0,.int .u64 0,.int .u64 0,.int .u64 0,.int .u64 0,.int .u64 0,.string ⟨#[]⟩,.string ⟨#[]⟩,.slice none 0 0],.agg #[.int .i64 7,.int .i64 0]]) (by simp [results,Tryz.results15,go_sem,x0,x1,x2,x3,x4,x5,x6,x7,x8,x9,y0,y1]) rfl ?_
  exact HBAD.out 7 0 _ (HR1.out hO) (HB1.out.trans (rc.below (B:=s) (fun q hq=>by omega) (by have:=HB1.out.size;omega)))
 ·have e1:((nO:Int) == 0)=false:=by simp;omega
  by_cases hl:8192 < n
  ·have e2:(8192:Int) < (n:Int):=by omega
   have e3:decide ((8192:Int) < (n:Int))=true:=by simpa using e2
   have cq0:=HK6.out.cell 0
   have cq1:=HK6.out.cell 1
   have cq2:=HK6.out.cell 2
   have cq3:=HK6.out.cell 3
   have cq4:=HK6.out.cell 4
   have cq5:=HK6.out.cell 5
   have cq6:=HK6.out.cell 6
   have cq7:=HK6.out.cell 7
   have cq8:=HK6.out.cell 8
   have cq9:=HK6.out.cell 9
   have dq0:=HK7.out.cell 0
   have dq1:=HK7.out.cell 1
   simp only [gA,gB,gC] at cq0 cq1 cq2 cq3 cq4 cq5 cq6 cq7 cq8 cq9 dq0 dq1
   have fq0:=HK6.out.frozen 0
   have fq1:=HK6.out.frozen 1
   have fq2:=HK6.out.frozen 2
   have fq3:=HK6.out.frozen 3
   have fq4:=HK6.out.frozen 4
   have fq5:=HK6.out.frozen 5
   have fq6:=HK6.out.frozen 6
   have fq7:=HK6.out.frozen 7
   have fq8:=HK6.out.frozen 8
   have fq9:=HK6.out.frozen 9
   have gq0:=HK7.out.frozen 0
   have gq1:=HK7.out.frozen 1
   go_wp2_with fail
   obtain ⟨r6,r7,rc⟩:=rstD2 HK6.out HK7.out (.int .u8 0) (.int .u64 0) (.int .u64 0) (.int .u64 0) (.int .u64 0) (.int .u64 0) (.int .u64 0) (.string ⟨#[]⟩) (.string ⟨#[]⟩) (.slice none 0 0) (.int .i64 2) (.int .i64 0)
   clear cq0 cq1 cq2 cq3 cq4 cq5 cq6 cq7 cq8 cq9 dq0 dq1 fq0 fq1 fq2 fq3 fq4 fq5 fq6 fq7 fq8 fq9 gq0 gq1
   have hW9:∃ W9,rWD2 w1 s (.int .u8 0) (.int .u64 0) (.int .u64 0) (.int .u64 0) (.int .u64 0) (.int .u64 0) (.int .u64 0) (.string ⟨#[]⟩) (.string ⟨#[]⟩) (.slice none 0 0) (.int .i64 2) (.int .i64 0)=W9:=⟨_,rfl⟩
   obtain ⟨W9,hW9⟩:=hW9
   rw [hW9] at r6 r7 rc
   unfold rWD2 at hW9
   rw [hW9]
   clear hW9
   have x0:=r6.cell 0
   have x1:=r6.cell 1
   have x2:=r6.cell 2
   have x3:=r6.cell 3
   have x4:=r6.cell 4
   have x5:=r6.cell 5
   have x6:=r6.cell 6
   have x7:=r6.cell 7
   have x8:=r6.cell 8
   have x9:=r6.cell 9
   have y0:=r7.cell 0
   have y1:=r7.cell 1
   simp only [gA,gB,gC] at x0 x1 x2 x3 x4 x5 x6 x7 x8 x9 y0 y1
   refine bodyPost_ret (v:=.tuple #[.agg #[.int .u8 0,.int .u64 0,.int .u64 0,.int .u64 0,.int .u64 0,.int .u64 0,.int .u64 0,.string ⟨#[]⟩,.string ⟨#[]⟩,.slice none 0 0],.agg #[.int .i64 2,.int .i64 0]]) (by simp [results,Tryz.results15,go_sem,x0,x1,x2,x3,x4,x5,x6,x7,x8,x9,y0,y1]) rfl ?_
   exact HBAD.out 2 0 _ (HR2.out hO hl) (HB1.out.trans (rc.below (B:=s) (fun q hq=>by omega) (by have:=HB1.out.size;omega)))
  ·have e2:¬ (8192:Int) < (n:Int):=by omega
   have e3:decide ((8192:Int) < (n:Int))=false:=by simpa using e2
   go_wp2_with fail
   have hs1:s+2<=w1.heap.size:=by have:=HK7.out.lt;omega
   refine (HFL.out _ HB1.out hl).mono ?_
   rintro e w2 ⟨hcase,hb2⟩
   have hk6:=HK6.out.below hb2 HK6.out.lt
   have hk7:=HK7.out.below hb2 HK7.out.lt
   have hb02:Below s w w2:=HB1.out.trans (hb2.mono (by have:=HB1.out.size;omega))
   have HK6:=hid hk6
   have HK7:=hid hk7
   have HB2:=hid hb02
   have hs2:s+2<=w2.heap.size:=by have:=HK7.out.lt;omega
   obtain ⟨q,hq⟩:∃ q,w2.heap.size=q:=⟨_,rfl⟩
   rw [hq] at hs2
   clear hb2 hk6 hk7 hb02
   rcases hcase with ⟨hF,vv,pre,rfl,ho,hall,hsl⟩ | ⟨hF,rfl⟩
   rotate_left
   ·have e4:(((eN:Nat):Int) != 0)=true:=by simpa using hF
    go_wp2_with fail
    obtain ⟨W3,hW3⟩:∃ W3,w2.alloc (.cells #[.int .i64 (eN:Int),.int .i64 (pN:Int)] 32)=W3:=⟨_,rfl⟩
    have hkq:Blk W3 q 32 #[.int .i64 (eN:Int),.int .i64 (pN:Int)]:=by
     have h:=Blk.new w2 32 #[.int .i64 (eN:Int),.int .i64 (pN:Int)]
     rw [hW3,hq] at h;exact h
    have hb3:Below q w2 W3:=by rw [<-hW3,<-hq];exact bw_a (Below.refl _ w2) _
    have hk6:=HK6.out.below hb3 (by omega)
    have hk7:=HK7.out.below hb3 (by omega)
    have hb03:Below s w W3:=HB2.out.trans (hb3.mono (by omega))
    rw [hW3]
    try rw [hq]
    have HKQ:=hid hkq
    have HKM:=hid hk6
    have HKF:=hid hk7
    have HB3:=hid hb03
    clear hW3 hkq hb3 hk6 hk7 hb03 hq
    refine wp_region_invB (by kernel_rfl) (by kernel_rfl) (RcR7 s q (eN:Int) (pN:Int)) ?_ ?_ ?_
    ·exact ⟨undef,undef,(by first | (simp only [Act.put,gD,gE,gF];done) | rfl),by simp,by simp,(by simp;exact (HKM.out)),(by simp;exact (HKF.out)),⟨rfl,rfl,rfl,Nat.le_refl _,fun _ _ _=>rfl⟩⟩
    ·intro f a' wx i o ho hf hdep hI
     have hi:i < 4:=(Array.getElem?_eq_some_iff.1 ho).1
     have hcase:i=0\/i=1\/i=2\/i=3:=by omega
     clear hi
     rcases hcase with rfl | rfl | rfl | rfl
     all_goals
      simp only [gA,gB,gC,Option.some.injEq] at ho
      subst ho
     ·skip
      obtain ⟨x0,x1,rfl,h0,h1,k2,k3,hC⟩:=hI
      have H0':=hid h0;have H1':=hid h1;have K2':=hid k2;have K3':=hid k3;have HC':=hid hC;clear h0 h1 k2 k3 hC
      try simp only [Act.put,gD,gE,gF]
      go_wp2_with fail
      have h0:=H0'.out;have h1:=H1'.out;have k2:=K2'.out;have k3:=K3'.out;have hC:=HC'.out
      exact ⟨_,x1,(by first | (simp only [Act.put,gD,gE,gF];done) | rfl),(fun _=>rfl),(fun h=>h1 (by simpa using h)),(by simpa using k2),(by simpa using k3),hC⟩
     ·skip
      obtain ⟨x0,x1,rfl,h0,h1,k2,k3,hC⟩:=hI
      have hb:=hC.blk HKQ.out (by omega)
      have t0:=hb.cell 0;have t1:=hb.cell 1
      simp only [gA,gB,gC] at t0 t1
      clear hb
      have H0':=hid h0;have H1':=hid h1;have K2':=hid k2;have K3':=hid k3;have HC':=hid hC;clear h0 h1 k2 k3 hC
      try simp only [Act.put,gD,gE,gF]
      go_wp2_with fail
      have h0:=H0'.out;have h1:=H1'.out;have k2:=K2'.out;have k3:=K3'.out;have hC:=HC'.out
      exact ⟨x0,_,(by first | (simp only [Act.put,gD,gE,gF];done) | rfl),(fun h=>h0 (by simpa using h)),(fun _=>rfl),(by simpa using k2),(by simpa using k3),hC⟩
     ·skip
      obtain ⟨x0,x1,rfl,h0,h1,k2,k3,hC⟩:=hI
      simp [Region.binds] at hdep
      obtain rfl:=h0 (by first | exact hdep | exact hdep.1 | exact hdep.2 | exact hdep.2.1 | exact hdep.2.2 | exact hdep.2.2.1 | exact hdep.2.2.2 | simp_all)
      have hko:Blk wx (s) 29 #[.int .u8 0,.int .u64 0,.int .u64 0,.int .u64 0,.int .u64 0,.int .u64 0,.int .u64 0,.string ⟨#[]⟩,.string ⟨#[]⟩,.slice none 0 0]:=by have h:=k2;rw [hf] at h;simpa using h
      have y0:=hko.cell 0;have z0:=hko.frozen 0
      have y1:=hko.cell 1;have z1:=hko.frozen 1
      have y2:=hko.cell 2;have z2:=hko.frozen 2
      have y3:=hko.cell 3;have z3:=hko.frozen 3
      have y4:=hko.cell 4;have z4:=hko.frozen 4
      have y5:=hko.cell 5;have z5:=hko.frozen 5
      have y6:=hko.cell 6;have z6:=hko.frozen 6
      have y7:=hko.cell 7;have z7:=hko.frozen 7
      have y8:=hko.cell 8;have z8:=hko.frozen 8
      have y9:=hko.cell 9;have z9:=hko.frozen 9
      simp only [gA,gB,gC] at y0 y1 y2 y3 y4 y5 y6 y7 y8 y9
      have HKO:=hid hko;clear hko
      have H0':=hid h0;have H1':=hid h1;have K2':=hid k2;have K3':=hid k3;have HC':=hid hC;clear h0 h1 k2 k3 hC
      try simp only [Act.put,gD,gE,gF]
      go_wp2_with fail
      have h0:=H0'.out;have h1:=H1'.out;have k2:=K2'.out;have k3:=K3'.out;have hC:=HC'.out
      obtain ⟨hkn,hcn⟩:=mstore HKO.out _ _ _ _ _ _ _ _ _ _
      exact ⟨_,x1,(by first | (simp only [Act.put,gD,gE,gF];done) | rfl),(fun _=>rfl),(fun h=>h1 (by simpa using h)),(by simpa using hkn),(hcn.blk (by simpa using k3) (by omega)),(hC.trans (hcn.mono (fun q _ hq=>by subst hq;simp)))⟩
     ·skip
      obtain ⟨x0,x1,rfl,h0,h1,k2,k3,hC⟩:=hI
      simp [Region.binds] at hdep
      obtain rfl:=h1 (by first | exact hdep | exact hdep.1 | exact hdep.2 | exact hdep.2.1 | exact hdep.2.2 | exact hdep.2.2.1 | exact hdep.2.2.2 | simp_all)
      have hko:Blk wx (s+1) 32 #[.int .i64 0,.int .i64 0]:=by have h:=k3;rw [hf] at h;simpa using h
      have y0:=hko.cell 0;have z0:=hko.frozen 0
      have y1:=hko.cell 1;have z1:=hko.frozen 1
      simp only [gA,gB,gC] at y0 y1
      have HKO:=hid hko;clear hko
      have H0':=hid h0;have H1':=hid h1;have K2':=hid k2;have K3':=hid k3;have HC':=hid hC;clear h0 h1 k2 k3 hC
      try simp only [Act.put,gD,gE,gF]
      go_wp2_with fail
      have h0:=H0'.out;have h1:=H1'.out;have k2:=K2'.out;have k3:=K3'.out;have hC:=HC'.out
      obtain ⟨hkn,hcn⟩:=fstore HKO.out _ _
      exact ⟨x0,_,(by first | (simp only [Act.put,gD,gE,gF];done) | rfl),(fun h=>h0 (by simpa using h)),(fun _=>rfl),(hcn.blk (by simpa using k2) (by omega)),(by simpa using hkn),(hC.trans (hcn.mono (fun q _ hq=>by subst hq;simp)))⟩
    ·intro f a' wx hall hI
     obtain ⟨x0,x1,rfl,h0,h1,k2,k3,hC⟩:=hI
     obtain rfl:=h0 (hall 0 (by simp))
     obtain rfl:=h1 (hall 1 (by simp))
     have kf2:=k2;rw [hall 2 (by simp),if_pos rfl] at kf2
     have kf3:=k3;rw [hall 3 (by simp),if_pos rfl] at kf3
     clear h0 h1 k2 k3 hall f
     try simp only [Act.put,gD,gE,gF]
     go_wp2_with fail
     have x0:=kf2.cell 0
     have x1:=kf2.cell 1
     have x2:=kf2.cell 2
     have x3:=kf2.cell 3
     have x4:=kf2.cell 4
     have x5:=kf2.cell 5
     have x6:=kf2.cell 6
     have x7:=kf2.cell 7
     have x8:=kf2.cell 8
     have x9:=kf2.cell 9
     have y0:=kf3.cell 0
     have y1:=kf3.cell 1
     simp only [gA,gB,gC] at x0 x1 x2 x3 x4 x5 x6 x7 x8 x9 y0 y1
     have hbR:=HB3.out.trans (hC.below (B:=s) (fun x hx=>by omega) (by have:=HKM.out.lt;omega))
     refine bodyPost_ret (v:=.tuple #[.agg #[.int .u8 0,.int .u64 0,.int .u64 0,.int .u64 0,.int .u64 0,.int .u64 0,.int .u64 0,.string ⟨#[]⟩,.string ⟨#[]⟩,.slice none 0 0],.agg #[.int .i64 (eN:Int),.int .i64 (pN:Int)]]) (by simp [results,Tryz.results15,go_sem,x0,x1,x2,x3,x4,x5,x6,x7,x8,x9,y0,y1]) rfl ?_
     exact HBAD.out _ _ _ (HR3.out hO hl hF) hbR
   ·subst hF
    obtain ⟨Al,cl,rfl,hsn⟩:=sln_own (by decide) ho
    obtain ⟨hpn,hrok⟩:=HRD.out pre hall
    have hr4:=HR4.out hO hl rfl
    obtain ⟨M0,hM0⟩:∃ M0:MV,{ ZM with k:=k }=M0:=⟨_,rfl⟩
    rw [hM0] at hr4
    obtain ⟨np,hnp⟩:∃ np,pre.length=np:=⟨_,rfl⟩
    rw [hnp] at hsn hpn
    have hla:=fvAll_len hall
    try rw [hnp]
    have HR5:=hid hr4
    have HSN:=hid hsn
    have HALL:=hid hall
    have HSL:=hid hsl
    have HRO:=hid hrok
    have HNP:=hid hnp
    have HLA:=hid hla
    have HO:=hid ho
    have HM0:=hid hM0
    clear hr4 hsn hall hsl hrok hnp hla hM0 ho HR1 HR2 HR3 HR4 HFL HRD HOF
    go_wp2_with fail
    obtain ⟨Wa,hWa⟩:∃ Wa,((w2.alloc (.cells #[.int .i64 0,.int .i64 0] 32)).alloc (.cells #[.int .u8 (k:Int),.int .u64 0,.int .u64 0,.int .u64 0,.int .u64 0,.int .u64 0,.int .u64 0,.string ⟨#[]⟩,.string ⟨#[]⟩,.slice none 0 0] 29))=Wa:=⟨_,rfl⟩
    have hba:Below q w2 Wa:=by rw [<-hWa,<-hq];exact bw_a (bw_a (Below.refl _ w2) _) _
    have hkm:Blk Wa (q+1) 29 #[.int .u8 (k:Int),.int .u64 0,.int .u64 0,.int .u64 0,.int .u64 0,.int .u64 0,.int .u64 0,.string ⟨#[]⟩,.string ⟨#[]⟩,.slice none 0 0]:=by
     have h:=Blk.new (w2.alloc (.cells #[.int .i64 0,.int .i64 0] 32)) 29 #[.int .u8 (k:Int),.int .u64 0,.int .u64 0,.int .u64 0,.int .u64 0,.int .u64 0,.int .u64 0,.string ⟨#[]⟩,.string ⟨#[]⟩,.slice none 0 0]
     rw [World.size_alloc,hq,hWa] at h;exact h
    have hJ0:RdK s q w w2 L M0 FS 0 M0 none 0 Wa:=by
     refine ⟨HK6.out.below hba (by omega),HK7.out.below hba (by omega),?_,?_,HB2.out.trans (hba.mono (by omega)),hba,?_,by simp⟩
     ·rw [<-HM0.out];exact hkm
     ·rw [<-HM0.out];exact World.ownsRow_nil _ _ _ _
     ·rw [<-HM0.out];simp [ZM]
    rw [hWa]
    try rw [hq]
    have HJ0:=hid hJ0
    have HQ:=hid hq
    clear hWa hba hkm hJ0 hq
    go_loopw [11,13,15] (fun i _ _ wr=>∃ (j:Nat) (M:MV) (A1:Option Addr) (c1:Nat),j<=np/\i=.int .i64 (j:Int)/\RdK s q w w2 L M0 FS j M A1 c1 wr) (fun i _ _ _=>np - (intOf i).toNat)
    case atStart=>exact ⟨0,M0,none,0,by omega,rfl,HJ0.out⟩
    case round =>
     obtain ⟨j,M,A1,c1,hj,rfl,hJ⟩:=hrel
     by_cases hlt:j < np
     ·have hjl:j < pre.length:=by have:=HNP.out;omega
      have hget:pre[j]? = some pre[j]:=List.getElem?_eq_getElem hjl
      obtain ⟨r,hr,hfr⟩:=fvAll_at HALL.out j _ hget
      have hfp:pre[j] ∈ pre:=List.getElem_mem hjl
      have hro:=HRO.out _ hfp
      have hslf:=(HSL.out _ hfp).below (w':=wr) (by rw [HQ.out];exact hJ.bq)
      have hsnw:=HSN.out.below (w':=wr) (by rw [HQ.out];exact hJ.bq)
      have hn0:(pre.flatMap fvC)[j * 5+0]? = _:=flatMap_get fvC 5 pre j 0 hjl (fun _ _=>rfl) (by omega)
      have hn1:(pre.flatMap fvC)[j * 5+1]? = _:=flatMap_get fvC 5 pre j 1 hjl (fun _ _=>rfl) (by omega)
      have hn2:(pre.flatMap fvC)[j * 5+2]? = _:=flatMap_get fvC 5 pre j 2 hjl (fun _ _=>rfl) (by omega)
      have hn3:(pre.flatMap fvC)[j * 5+3]? = _:=flatMap_get fvC 5 pre j 3 hjl (fun _ _=>rfl) (by omega)
      have hn4:(pre.flatMap fvC)[j * 5+4]? = _:=flatMap_get fvC 5 pre j 4 hjl (fun _ _=>rfl) (by omega)
      generalize pre[j]=f at *
      obtain ⟨fnum,fw,fn,⟨fA,fc,fxs⟩,fat⟩:=f
      simp only [fvC,gB,gC] at hn0 hn1 hn2 hn3 hn4
      obtain ⟨bl,ol,hA,hbl,t0⟩:=hsnw.rd _ _ hn0
      subst hA
      have t1:=hsnw.rd.addr _ _ hn1
      have t2:=hsnw.rd.addr _ _ hn2
      have t3:=hsnw.rd.addr _ _ hn3
      have t4:=hsnw.rd.addr _ _ hn4
      rw [addr_add] at t1 t2 t3 t4
      simp only [Nat.add_zero,<-Nat.add_assoc] at t0 t1 t2 t3 t4
      have hns:¬ (bl=s\/bl=s+1):=by have:=(HO.out.lt bl rfl).1;omega
      have HNS0:=hid hns
      clear hns
      have hfv:(fvS ⟨fnum,fw,fn,⟨fA,fc,fxs⟩,fat⟩:ByteArray)=rfS r:=(rfS_fv hfr).symm
      have hset:=fun W (hW:Below wr.heap.size wr W) (x:SRow)=>rset_own M A1 c1 (x.num:Int) (x.typ:Int) (x.slot:Int) ⟨fnum,fw,fn,⟨fA,fc,fxs⟩,fat⟩ W s (by have:=hJ.km.lt;have:=hW.size;omega) hro.2.2.1 hJ.len (own_below hJ.om hW) (by have:=hro.2.2.2.2.2.2.2;omega) (hslf.below hW)
      have hbe:=HBC.out fnum fw fn fA fxs.length fc fat
      have hji:(j:Int) < (np:Int):=by omega
      have hj0:(0:Int)<=(j:Int):=by omega
      have hnx:=fun (h:ownR L fnum fw=none) W' (hb:Below wr.heap.size wr W')=>hJ.next (by omega) hb r hr (by rw [<-hfr.1,<-hfr.2.1];exact h)
      obtain ⟨xl,hxl⟩:∃ xl,fxs.length=xl:=⟨_,rfl⟩
      rw [hxl] at t3 hbe
      obtain ⟨OR,hOR⟩:∃ OR,ownR L fnum fw=OR:=⟨_,rfl⟩
      rw [hOR] at hbe hnx
      have HSET:=hid hset
      have HBE:=hid hbe
      have HNX:=hid hnx
      have HJ:=hid hJ
      have HBL:=hid hbl
      have HT0:=hid t0
      have HT1:=hid t1
      have HT2:=hid t2
      have HT3:=hid t3
      have HT4:=hid t4
      have HFR:=hid hfr
      have HGR:=hid hr
      have HOR:=hid hOR
      have HFV:=hid hfv
      have HRJ:=hid hro
      have HXL:=hid hxl
      clear hset hbe hnx hJ hbl hfr hr hOR hfv hro hsnw hslf hget hfp hn0 hn1 hn2 hn3 hn4 hxl
      cases OR with
      | none =>
       obtain ⟨a0,b0,c0,hB⟩:=HBE.out.1 rfl
       have HBB:=hid hB
       clear hB HSET HBE
       go_wp2_with fail
       refine (HBB.out _).mono ?_
       rintro e w3 ⟨rfl,hb3⟩
       have hjn:=HNX.out (by simp) _ (bw_a hb3 (.cells #[.int .i64 (a0:Int),.int .i64 (b0:Int),.int .i64 (c0:Int)] 57))
       have HJN:=hid hjn
       clear hb3 hjn t0 t1 t2 t3 t4
       go_wp2_with fail
       go_roundw
       case rel=>exact ⟨j+1,M,A1,c1,by omega,by go_num,HJN.out⟩
       case measure=>simp [intOf];omega
      | some x =>
       have hB:=HBE.out.2 x rfl
       have hset:=fun W hW=>HSET.out W hW x
       obtain ⟨rnu,hrnu⟩:∃ n,x.num=n:=⟨_,rfl⟩
       obtain ⟨rty,hrty⟩:∃ n,x.typ=n:=⟨_,rfl⟩
       obtain ⟨rsl,hrsl⟩:∃ n,x.slot=n:=⟨_,rfl⟩
       rw [hrnu,hrty,hrsl] at hB
       simp only [hrnu,hrty,hrsl] at hset
       obtain ⟨R,hRR⟩:∃ R,setM M (rty:Int) (rsl:Int) fn (fvS ⟨fnum,fw,fn,⟨fA,fc,fxs⟩,fat⟩)=R:=⟨_,rfl⟩
       obtain ⟨E,hEE⟩:∃ E,setE M (rty:Int) (rsl:Int) (fvS ⟨fnum,fw,fn,⟨fA,fc,fxs⟩,fat⟩)=E:=⟨_,rfl⟩
       simp only [hRR,hEE] at hset
       have hset2:∀ W,Below wr.heap.size wr W->Calls Tryz.prog 24 #[.agg #[.int .u8 (M.k:Int),.int .u64 (M.n0:Int),.int .u64 (M.n1:Int),.int .u64 (M.n2:Int),.int .u64 (M.n3:Int),.int .u64 (M.n4:Int),.int .u64 (M.n5:Int),.string M.s0,.string M.s1,.slice A1 M.l.length c1],.agg #[.int .i64 (rnu:Int),.int .i64 (rty:Int),.int .i64 (rsl:Int)],.agg #[.int .i64 fnum,.int .u8 fw,.int .u64 (fn:Int),.slice fA xl fc,.int .i64 fat]] W fun e w'=>∃ A' c',e=.returned (.tuple #[.agg #[.int .u8 (R.k:Int),.int .u64 (R.n0:Int),.int .u64 (R.n1:Int),.int .u64 (R.n2:Int),.int .u64 (R.n3:Int),.int .u64 (R.n4:Int),.int .u64 (R.n5:Int),.string R.s0,.string R.s1,.slice A' R.l.length c'],.int .i64 E])/\w'.ownsRow s 9 1 (.slice A' R.l.length c') R.l.length (R.l.map sv)/\Below W.heap.size W w':=fun W hW=>by
        have h:=hset W hW
        simp only [fvC,HXL.out] at h
        exact h
       have HBB:=hid hB
       have HS2:=hid hset2
       have HRR:=hid hRR
       have HEE:=hid hEE
       have HRN:=hid (And.intro hrty hrsl)
       clear hB hset hset2 hRR hEE hrnu hrty hrsl HSET HBE HNX
       go_wp2_with fail
       refine (HBB.out _).mono ?_
       rintro e w3 ⟨rfl,hb3⟩
       have HB3:=hid hb3
       clear hb3 t0 t1 t2 t3 t4
       go_wp2_with fail
       obtain ⟨g,hg⟩:∃ g,w3.heap.size=g:=⟨_,rfl⟩
       obtain ⟨W4,hW4⟩:∃ W4,w3.alloc (.cells #[.int .i64 (rnu:Int),.int .i64 (rty:Int),.int .i64 (rsl:Int)] 57)=W4:=⟨_,rfl⟩
       have hkx:Blk W4 g 57 #[.int .i64 (rnu:Int),.int .i64 (rty:Int),.int .i64 (rsl:Int)]:=by
        have h:=Blk.new w3 57 #[.int .i64 (rnu:Int),.int .i64 (rty:Int),.int .i64 (rsl:Int)]
        rw [hW4,hg] at h;exact h
       have hb4:Below wr.heap.size wr W4:=by rw [<-hW4];exact bw_a HB3.out _
       rw [hW4]
       try rw [hg]
       have HKX:=hid hkx
       have HMM:=hid (HJ.out.mm.below hb4 HJ.out.mm.lt)
       have HSETW:=hid (fun W (hW:Below W4.heap.size W4 W)=>HS2.out W (hb4.trans (hW.mono hb4.size)))
       have HSW:=hid (show s<=W4.heap.size by have:=HJ.out.km.lt;have:=hb4.size;omega)
       have HBL4:=hid (Nat.lt_of_lt_of_le HBL.out hb4.size)
       have HU0:=hid ((hb4.cell (p:=⟨bl,ol+j * 5,none⟩) HBL.out).trans HT0.out)
       have HU1:=hid ((hb4.cell (p:=⟨bl,ol+j * 5+1,none⟩) HBL.out).trans HT1.out)
       have HU2:=hid ((hb4.cell (p:=⟨bl,ol+j * 5+2,none⟩) HBL.out).trans HT2.out)
       have HU3:=hid ((hb4.cell (p:=⟨bl,ol+j * 5+3,none⟩) HBL.out).trans HT3.out)
       have HU4:=hid ((hb4.cell (p:=⟨bl,ol+j * 5+4,none⟩) HBL.out).trans HT4.out)
       have HB4:=hid hb4
       clear hkx hb4 hW4 hg HBB HS2 HT0 HT1 HT2 HT3 HT4 HBL
       refine wp_region_invB (by kernel_rfl) (by kernel_rfl) (RcR14 s bl ol j np cl M R A1 c1 rnu rty rsl fn xl fc fnum fw fat fA E) ?_ ?_ ?_
       ·exact ⟨u59,u60,u61,u62,u63,u64,u65,u58,u66,u67,u14,u15,none,0,(by first | (simp only [Act.put,gD,gE,gF];done) | rfl),by simp,by simp,by simp,by simp,by simp,by simp,by simp,by simp,by simp,by simp,by simp,by simp,by simp,by simp,by simp,(below_drwR (Below.refl _ W4))⟩
       ·intro f a' wx i o ho hf hdep hI
        have hi:i < 13:=(Array.getElem?_eq_some_iff.1 ho).1
        have hcase:i=0\/i=1\/i=2\/i=3\/i=4\/i=5\/i=6\/i=7\/i=8\/i=9\/i=10\/i=11\/i=12:=by omega
        clear hi
        rcases hcase with rfl | rfl | rfl | rfl | rfl | rfl | rfl | rfl | rfl | rfl | rfl | rfl | rfl
        all_goals
         simp only [gA,gB,gC,Option.some.injEq] at ho
         subst ho
        ·skip
         obtain ⟨x0,x1,x2,x3,x4,x5,x6,x7,x8,x9,x10,x12,A',c',rfl,h0,h1,h2,h3,h4,h5,h6,s6,h7,h8,h9,h10,d11,h12,d12,WB⟩:=hI
         have hkk:=HMM.out.below WB HMM.out.lt
         have c0:=hkk.cell 0
         have c1:=hkk.cell 1
         have c2:=hkk.cell 2
         have c3:=hkk.cell 3
         have c4:=hkk.cell 4
         have c5:=hkk.cell 5
         have c6:=hkk.cell 6
         have c7:=hkk.cell 7
         have c8:=hkk.cell 8
         have c9:=hkk.cell 9
         simp only [gA,gB,gC] at c0 c1 c2 c3 c4 c5 c6 c7 c8 c9
         clear hkk
         have H0':=hid h0;have H1':=hid h1;have H2':=hid h2;have H3':=hid h3;have H4':=hid h4;have H5':=hid h5;have H6':=hid h6;have S6':=hid s6;have H7':=hid h7;have H8':=hid h8;have H9':=hid h9;have H10':=hid h10;have D11':=hid d11;have H12':=hid h12;have D12':=hid d12;have WB':=hid WB;clear h0 h1 h2 h3 h4 h5 h6 s6 h7 h8 h9 h10 d11 h12 d12 WB
         try simp only [Act.put,gD,gE,gF]
         go_wp2_with fail
         have h0:=H0'.out;have h1:=H1'.out;have h2:=H2'.out;have h3:=H3'.out;have h4:=H4'.out;have h5:=H5'.out;have h6:=H6'.out;have s6:=S6'.out;have h7:=H7'.out;have h8:=H8'.out;have h9:=H9'.out;have h10:=H10'.out;have d11:=D11'.out;have h12:=H12'.out;have d12:=D12'.out;have WB:=WB'.out
         exact ⟨_,x1,x2,x3,x4,x5,x6,x7,x8,x9,x10,x12,A',c',(by first | (simp only [Act.put,gD,gE,gF];done) | rfl),(fun _=>rfl),(fun h=>h1 (by simpa using h)),(fun h=>h2 (by simpa using h)),(fun h=>h3 (by simpa using h)),(fun h=>h4 (by simpa using h)),(fun h=>h5 (by simpa using h)),(fun h=>h6 (by simpa using h)),(fun h=>(s6 (by simpa using h))),(fun h=>by have h':=h7 (by simpa using h);exact ⟨by simp [h'.1],h'.2⟩),(fun h=>by have h':=h8 (by simpa using h);exact ⟨by simp [h'.1],h'.2⟩),(fun h=>by have h':=h9 (by simpa using h);exact ⟨by simp [h'.1],h'.2⟩),(fun h=>by obtain ⟨g,e,hg,hk⟩:=h10 (by simpa using h);have hk':=hk;exact ⟨g,e,hg,by simpa using hk'⟩),(fun h=>by have h':=d11 (by simpa using h);simp [h']),(fun h=>h12 (by simpa using h)),(fun h=>by have h':=d12 (by simpa using h);simp [h']),WB⟩
        ·skip
         obtain ⟨x0,x1,x2,x3,x4,x5,x6,x7,x8,x9,x10,x12,A',c',rfl,h0,h1,h2,h3,h4,h5,h6,s6,h7,h8,h9,h10,d11,h12,d12,WB⟩:=hI
         have hkk:=HKX.out.below WB HKX.out.lt
         have c0:=hkk.cell 0
         have c1:=hkk.cell 1
         have c2:=hkk.cell 2
         simp only [gA,gB,gC] at c0 c1 c2
         clear hkk
         have H0':=hid h0;have H1':=hid h1;have H2':=hid h2;have H3':=hid h3;have H4':=hid h4;have H5':=hid h5;have H6':=hid h6;have S6':=hid s6;have H7':=hid h7;have H8':=hid h8;have H9':=hid h9;have H10':=hid h10;have D11':=hid d11;have H12':=hid h12;have D12':=hid d12;have WB':=hid WB;clear h0 h1 h2 h3 h4 h5 h6 s6 h7 h8 h9 h10 d11 h12 d12 WB
         try simp only [Act.put,gD,gE,gF]
         go_wp2_with fail
         have h0:=H0'.out;have h1:=H1'.out;have h2:=H2'.out;have h3:=H3'.out;have h4:=H4'.out;have h5:=H5'.out;have h6:=H6'.out;have s6:=S6'.out;have h7:=H7'.out;have h8:=H8'.out;have h9:=H9'.out;have h10:=H10'.out;have d11:=D11'.out;have h12:=H12'.out;have d12:=D12'.out;have WB:=WB'.out
         exact ⟨x0,_,x2,x3,x4,x5,x6,x7,x8,x9,x10,x12,A',c',(by first | (simp only [Act.put,gD,gE,gF];done) | rfl),(fun h=>h0 (by simpa using h)),(fun _=>rfl),(fun h=>h2 (by simpa using h)),(fun h=>h3 (by simpa using h)),(fun h=>h4 (by simpa using h)),(fun h=>h5 (by simpa using h)),(fun h=>h6 (by simpa using h)),(fun h=>(s6 (by simpa using h))),(fun h=>by have h':=h7 (by simpa using h);exact ⟨by simp [h'.1],h'.2⟩),(fun h=>by have h':=h8 (by simpa using h);exact ⟨by simp [h'.1],h'.2⟩),(fun h=>by have h':=h9 (by simpa using h);exact ⟨by simp [h'.1],h'.2⟩),(fun h=>by obtain ⟨g,e,hg,hk⟩:=h10 (by simpa using h);have hk':=hk;exact ⟨g,e,hg,by simpa using hk'⟩),(fun h=>by have h':=d11 (by simpa using h);simp [h']),(fun h=>h12 (by simpa using h)),(fun h=>by have h':=d12 (by simpa using h);simp [h']),WB⟩
        ·skip
         obtain ⟨x0,x1,x2,x3,x4,x5,x6,x7,x8,x9,x10,x12,A',c',rfl,h0,h1,h2,h3,h4,h5,h6,s6,h7,h8,h9,h10,d11,h12,d12,WB⟩:=hI
         have H0':=hid h0;have H1':=hid h1;have H2':=hid h2;have H3':=hid h3;have H4':=hid h4;have H5':=hid h5;have H6':=hid h6;have S6':=hid s6;have H7':=hid h7;have H8':=hid h8;have H9':=hid h9;have H10':=hid h10;have D11':=hid d11;have H12':=hid h12;have D12':=hid d12;have WB':=hid WB;clear h0 h1 h2 h3 h4 h5 h6 s6 h7 h8 h9 h10 d11 h12 d12 WB
         try simp only [Act.put,gD,gE,gF]
         go_wp2_with fail
         have h0:=H0'.out;have h1:=H1'.out;have h2:=H2'.out;have h3:=H3'.out;have h4:=H4'.out;have h5:=H5'.out;have h6:=H6'.out;have s6:=S6'.out;have h7:=H7'.out;have h8:=H8'.out;have h9:=H9'.out;have h10:=H10'.out;have d11:=D11'.out;have h12:=H12'.out;have d12:=D12'.out;have WB:=WB'.out
         exact ⟨x0,x1,_,x3,x4,x5,x6,x7,x8,x9,x10,x12,A',c',(by first | (simp only [Act.put,gD,gE,gF];done) | rfl),(fun h=>h0 (by simpa using h)),(fun h=>h1 (by simpa using h)),(fun _=>rfl),(fun h=>h3 (by simpa using h)),(fun h=>h4 (by simpa using h)),(fun h=>h5 (by simpa using h)),(fun h=>h6 (by simpa using h)),(fun h=>(s6 (by simpa using h))),(fun h=>by have h':=h7 (by simpa using h);exact ⟨by simp [h'.1],h'.2⟩),(fun h=>by have h':=h8 (by simpa using h);exact ⟨by simp [h'.1],h'.2⟩),(fun h=>by have h':=h9 (by simpa using h);exact ⟨by simp [h'.1],h'.2⟩),(fun h=>by obtain ⟨g,e,hg,hk⟩:=h10 (by simpa using h);have hk':=hk;exact ⟨g,e,hg,by simpa using hk'⟩),(fun h=>by have h':=d11 (by simpa using h);simp [h']),(fun h=>h12 (by simpa using h)),(fun h=>by have h':=d12 (by simpa using h);simp [h']),WB⟩
        ·skip
         obtain ⟨x0,x1,x2,x3,x4,x5,x6,x7,x8,x9,x10,x12,A',c',rfl,h0,h1,h2,h3,h4,h5,h6,s6,h7,h8,h9,h10,d11,h12,d12,WB⟩:=hI
         have H0':=hid h0;have H1':=hid h1;have H2':=hid h2;have H3':=hid h3;have H4':=hid h4;have H5':=hid h5;have H6':=hid h6;have S6':=hid s6;have H7':=hid h7;have H8':=hid h8;have H9':=hid h9;have H10':=hid h10;have D11':=hid d11;have H12':=hid h12;have D12':=hid d12;have WB':=hid WB;clear h0 h1 h2 h3 h4 h5 h6 s6 h7 h8 h9 h10 d11 h12 d12 WB
         try simp only [Act.put,gD,gE,gF]
         go_wp2_with fail
         have h0:=H0'.out;have h1:=H1'.out;have h2:=H2'.out;have h3:=H3'.out;have h4:=H4'.out;have h5:=H5'.out;have h6:=H6'.out;have s6:=S6'.out;have h7:=H7'.out;have h8:=H8'.out;have h9:=H9'.out;have h10:=H10'.out;have d11:=D11'.out;have h12:=H12'.out;have d12:=D12'.out;have WB:=WB'.out
         exact ⟨x0,x1,x2,_,x4,x5,x6,x7,x8,x9,x10,x12,A',c',(by first | (simp only [Act.put,gD,gE,gF];done) | rfl),(fun h=>h0 (by simpa using h)),(fun h=>h1 (by simpa using h)),(fun h=>h2 (by simpa using h)),(fun _=>rfl),(fun h=>h4 (by simpa using h)),(fun h=>h5 (by simpa using h)),(fun h=>h6 (by simpa using h)),(fun h=>(s6 (by simpa using h))),(fun h=>by have h':=h7 (by simpa using h);exact ⟨by simp [h'.1],h'.2⟩),(fun h=>by have h':=h8 (by simpa using h);exact ⟨by simp [h'.1],h'.2⟩),(fun h=>by have h':=h9 (by simpa using h);exact ⟨by simp [h'.1],h'.2⟩),(fun h=>by obtain ⟨g,e,hg,hk⟩:=h10 (by simpa using h);have hk':=hk;exact ⟨g,e,hg,by simpa using hk'⟩),(fun h=>by have h':=d11 (by simpa using h);simp [h']),(fun h=>h12 (by simpa using h)),(fun h=>by have h':=d12 (by simpa using h);simp [h']),WB⟩
        ·skip
         obtain ⟨x0,x1,x2,x3,x4,x5,x6,x7,x8,x9,x10,x12,A',c',rfl,h0,h1,h2,h3,h4,h5,h6,s6,h7,h8,h9,h10,d11,h12,d12,WB⟩:=hI
         simp [Region.binds] at hdep
         obtain rfl:=h2 (by first | exact hdep | exact hdep.1 | exact hdep.2 | exact hdep.2.1 | exact hdep.2.2 | exact hdep.2.2.1 | exact hdep.2.2.2 | simp_all)
         obtain rfl:=h3 (by first | exact hdep | exact hdep.1 | exact hdep.2 | exact hdep.2.1 | exact hdep.2.2 | exact hdep.2.2.1 | exact hdep.2.2.2 | simp_all)
         have H0':=hid h0;have H1':=hid h1;have H2':=hid h2;have H3':=hid h3;have H4':=hid h4;have H5':=hid h5;have H6':=hid h6;have S6':=hid s6;have H7':=hid h7;have H8':=hid h8;have H9':=hid h9;have H10':=hid h10;have D11':=hid d11;have H12':=hid h12;have D12':=hid d12;have WB':=hid WB;clear h0 h1 h2 h3 h4 h5 h6 s6 h7 h8 h9 h10 d11 h12 d12 WB
         try simp only [Act.put,gD,gE,gF]
         go_wp2_with fail
         have h0:=H0'.out;have h1:=H1'.out;have h2:=H2'.out;have h3:=H3'.out;have h4:=H4'.out;have h5:=H5'.out;have h6:=H6'.out;have s6:=S6'.out;have h7:=H7'.out;have h8:=H8'.out;have h9:=H9'.out;have h10:=H10'.out;have d11:=D11'.out;have h12:=H12'.out;have d12:=D12'.out;have WB:=WB'.out
         exact ⟨x0,x1,_,_,_,x5,x6,x7,x8,x9,x10,x12,A',c',(by first | (simp only [Act.put,gD,gE,gF];done) | rfl),(fun h=>h0 (by simpa using h)),(fun h=>h1 (by simpa using h)),(fun _=>rfl),(fun _=>rfl),(fun _=>rfl),(fun h=>h5 (by simpa using h)),(fun h=>h6 (by simpa using h)),(fun h=>(s6 (by simpa using h))),(fun h=>by have h':=h7 (by simpa using h);exact ⟨by simp [h'.1],h'.2⟩),(fun h=>by have h':=h8 (by simpa using h);exact ⟨by simp [h'.1],h'.2⟩),(fun h=>by have h':=h9 (by simpa using h);exact ⟨by simp [h'.1],h'.2⟩),(fun h=>by obtain ⟨g,e,hg,hk⟩:=h10 (by simpa using h);have hk':=hk;exact ⟨g,e,hg,by simpa using hk'⟩),(fun h=>by have h':=d11 (by simpa using h);simp [h']),(fun h=>h12 (by simpa using h)),(fun h=>by have h':=d12 (by simpa using h);simp [h']),WB⟩
        ·skip
         obtain ⟨x0,x1,x2,x3,x4,x5,x6,x7,x8,x9,x10,x12,A',c',rfl,h0,h1,h2,h3,h4,h5,h6,s6,h7,h8,h9,h10,d11,h12,d12,WB⟩:=hI
         simp [Region.binds] at hdep
         obtain rfl:=h4 (by first | exact hdep | exact hdep.1 | exact hdep.2 | exact hdep.2.1 | exact hdep.2.2 | exact hdep.2.2.1 | exact hdep.2.2.2 | simp_all)
         have t0:=(WB.cell (p:=⟨bl,ol+j * 5,none⟩) HBL4.out).trans HU0.out
         have t1:=(WB.cell (p:=⟨bl,ol+j * 5+1,none⟩) HBL4.out).trans HU1.out
         have t2:=(WB.cell (p:=⟨bl,ol+j * 5+2,none⟩) HBL4.out).trans HU2.out
         have t3:=(WB.cell (p:=⟨bl,ol+j * 5+3,none⟩) HBL4.out).trans HU3.out
         have t4:=(WB.cell (p:=⟨bl,ol+j * 5+4,none⟩) HBL4.out).trans HU4.out
         have H0':=hid h0;have H1':=hid h1;have H2':=hid h2;have H3':=hid h3;have H4':=hid h4;have H5':=hid h5;have H6':=hid h6;have S6':=hid s6;have H7':=hid h7;have H8':=hid h8;have H9':=hid h9;have H10':=hid h10;have D11':=hid d11;have H12':=hid h12;have D12':=hid d12;have WB':=hid WB;clear h0 h1 h2 h3 h4 h5 h6 s6 h7 h8 h9 h10 d11 h12 d12 WB
         try simp only [Act.put,gD,gE,gF]
         go_wp2_with fail
         have h0:=H0'.out;have h1:=H1'.out;have h2:=H2'.out;have h3:=H3'.out;have h4:=H4'.out;have h5:=H5'.out;have h6:=H6'.out;have s6:=S6'.out;have h7:=H7'.out;have h8:=H8'.out;have h9:=H9'.out;have h10:=H10'.out;have d11:=D11'.out;have h12:=H12'.out;have d12:=D12'.out;have WB:=WB'.out
         exact ⟨x0,x1,x2,x3,_,_,x6,x7,x8,x9,x10,x12,A',c',(by first | (simp only [Act.put,gD,gE,gF];done) | rfl),(fun h=>h0 (by simpa using h)),(fun h=>h1 (by simpa using h)),(fun h=>h2 (by simpa using h)),(fun h=>h3 (by simpa using h)),(fun _=>rfl),(fun _=>rfl),(fun h=>h6 (by simpa using h)),(fun h=>(s6 (by simpa using h))),(fun h=>by have h':=h7 (by simpa using h);exact ⟨by simp [h'.1],h'.2⟩),(fun h=>by have h':=h8 (by simpa using h);exact ⟨by simp [h'.1],h'.2⟩),(fun h=>by have h':=h9 (by simpa using h);exact ⟨by simp [h'.1],h'.2⟩),(fun h=>by obtain ⟨g,e,hg,hk⟩:=h10 (by simpa using h);have hk':=hk;exact ⟨g,e,hg,by simpa using hk'⟩),(fun h=>by have h':=d11 (by simpa using h);simp [h']),(fun h=>h12 (by simpa using h)),(fun h=>by have h':=d12 (by simpa using h);simp [h']),WB⟩
        ·skip
         obtain ⟨x0,x1,x2,x3,x4,x5,x6,x7,x8,x9,x10,x12,A',c',rfl,h0,h1,h2,h3,h4,h5,h6,s6,h7,h8,h9,h10,d11,h12,d12,WB⟩:=hI
         simp [Region.binds] at hdep
         obtain rfl:=h0 (by first | exact hdep | exact hdep.1 | exact hdep.2 | exact hdep.2.1 | exact hdep.2.2 | exact hdep.2.2.1 | exact hdep.2.2.2 | simp_all)
         obtain rfl:=h1 (by first | exact hdep | exact hdep.1 | exact hdep.2 | exact hdep.2.1 | exact hdep.2.2 | exact hdep.2.2.1 | exact hdep.2.2.2 | simp_all)
         obtain rfl:=h5 (by first | exact hdep | exact hdep.1 | exact hdep.2 | exact hdep.2.1 | exact hdep.2.2 | exact hdep.2.2.1 | exact hdep.2.2.2 | simp_all)
         have q7:f 7=false:=(by cases hx:f 7 with | false=>rfl | true=>(have:=(h7 hx).1;rw [hf] at this;cases this))
         have q8:f 8=false:=(by cases hx:f 8 with | false=>rfl | true=>(have:=(h8 hx).1;rw [hf] at this;cases this))
         have q9:f 9=false:=(by cases hx:f 9 with | false=>rfl | true=>(have:=(h9 hx).1;rw [hf] at this;cases this))
         have q11:f 11=false:=(by cases hx:f 11 with | false=>rfl | true=>(have:=(d11 hx).2;rw [q8] at this;cases this))
         have q12:f 12=false:=(by cases hx:f 12 with | false=>rfl | true=>(have:=(d12 hx);rw [q9] at this;cases this))
         have HCON:=hid (HSETW.out wx WB)
         have hsx:s<=wx.heap.size:=Nat.le_trans HSW.out WB.size
         have H0':=hid h0;have H1':=hid h1;have H2':=hid h2;have H3':=hid h3;have H4':=hid h4;have H5':=hid h5;have H6':=hid h6;have S6':=hid s6;have H7':=hid h7;have H8':=hid h8;have H9':=hid h9;have H10':=hid h10;have D11':=hid d11;have H12':=hid h12;have D12':=hid d12;have WB':=hid WB;clear h0 h1 h2 h3 h4 h5 h6 s6 h7 h8 h9 h10 d11 h12 d12 WB
         try simp only [Act.put,gD,gE,gF]
         go_wp2_with fail
         refine HCON.out.mono ?_
         rintro e w8 ⟨Aq,cq,rfl,ho8,hb8⟩
         have HO8:=hid ho8
         have HB8:=hid hb8
         clear ho8 hb8
         go_wp2_with fail
         have h0:=H0'.out;have h1:=H1'.out;have h2:=H2'.out;have h3:=H3'.out;have h4:=H4'.out;have h5:=H5'.out;have h6:=H6'.out;have s6:=S6'.out;have h7:=H7'.out;have h8:=H8'.out;have h9:=H9'.out;have h10:=H10'.out;have d11:=D11'.out;have h12:=H12'.out;have d12:=D12'.out;have WB:=WB'.out
         exact ⟨_,_,x2,x3,x4,_,_,x7,x8,x9,x10,x12,Aq,cq,(by first | (simp only [Act.put,gD,gE,gF];done) | rfl),(fun _=>rfl),(fun _=>rfl),(fun h=>h2 (by simpa using h)),(fun h=>h3 (by simpa using h)),(fun h=>h4 (by simpa using h)),(fun _=>rfl),(fun _=>rfl),(fun _=>HO8.out),(fun h=>by simp [q7] at h),(fun h=>by simp [q8] at h),(fun h=>by simp [q9] at h),(fun h=>by obtain ⟨g,e,hg,hk⟩:=h10 (by simpa using h);have hk':=hk.below HB8.out hk.lt;exact ⟨g,e,hg,by simpa [q11] using hk'⟩),(fun h=>by have h':=d11 (by simpa using h);simp [h']),(fun h=>by simp [q12] at h),(fun h=>by have h':=d12 (by simpa using h);simp [h']),(WB.trans (HB8.out.mono WB.size))⟩
        ·skip
         obtain ⟨x0,x1,x2,x3,x4,x5,x6,x7,x8,x9,x10,x12,A',c',rfl,h0,h1,h2,h3,h4,h5,h6,s6,h7,h8,h9,h10,d11,h12,d12,WB⟩:=hI
         simp [Region.binds] at hdep
         obtain rfl:=h6 (by first | exact hdep | exact hdep.1 | exact hdep.2 | exact hdep.2.1 | exact hdep.2.2 | exact hdep.2.2.1 | exact hdep.2.2.2 | simp_all)
         have q6:f 6=true:=(by first | exact hdep | exact hdep.1 | simp_all)
         have H0':=hid h0;have H1':=hid h1;have H2':=hid h2;have H3':=hid h3;have H4':=hid h4;have H5':=hid h5;have H6':=hid h6;have S6':=hid s6;have H7':=hid h7;have H8':=hid h8;have H9':=hid h9;have H10':=hid h10;have D11':=hid d11;have H12':=hid h12;have D12':=hid d12;have WB':=hid WB;clear h0 h1 h2 h3 h4 h5 h6 s6 h7 h8 h9 h10 d11 h12 d12 WB
         try simp only [Act.put,gD,gE,gF]
         go_wp2_with fail
         have h0:=H0'.out;have h1:=H1'.out;have h2:=H2'.out;have h3:=H3'.out;have h4:=H4'.out;have h5:=H5'.out;have h6:=H6'.out;have s6:=S6'.out;have h7:=H7'.out;have h8:=H8'.out;have h9:=H9'.out;have h10:=H10'.out;have d11:=D11'.out;have h12:=H12'.out;have d12:=D12'.out;have WB:=WB'.out
         exact ⟨x0,x1,x2,x3,x4,x5,_,_,x8,x9,x10,x12,A',c',(by first | (simp only [Act.put,gD,gE,gF];done) | rfl),(fun h=>h0 (by simpa using h)),(fun h=>h1 (by simpa using h)),(fun h=>h2 (by simpa using h)),(fun h=>h3 (by simpa using h)),(fun h=>h4 (by simpa using h)),(fun h=>h5 (by simpa using h)),(fun _=>rfl),(fun h=>(s6 (by simpa using h))),(fun _=>⟨by simp [q6],rfl⟩),(fun h=>by have h':=h8 (by simpa using h);exact ⟨by simp [h'.1],h'.2⟩),(fun h=>by have h':=h9 (by simpa using h);exact ⟨by simp [h'.1],h'.2⟩),(fun h=>by obtain ⟨g,e,hg,hk⟩:=h10 (by simpa using h);have hk':=hk;exact ⟨g,e,hg,by simpa using hk'⟩),(fun h=>by have h':=d11 (by simpa using h);simp [h']),(fun h=>h12 (by simpa using h)),(fun h=>by have h':=d12 (by simpa using h);simp [h']),WB⟩
        ·skip
         obtain ⟨x0,x1,x2,x3,x4,x5,x6,x7,x8,x9,x10,x12,A',c',rfl,h0,h1,h2,h3,h4,h5,h6,s6,h7,h8,h9,h10,d11,h12,d12,WB⟩:=hI
         simp [Region.binds] at hdep
         obtain ⟨q6,rfl⟩:=h7 (by first | exact hdep | exact hdep.1 | exact hdep.2 | exact hdep.2.1 | exact hdep.2.2 | exact hdep.2.2.1 | exact hdep.2.2.2 | simp_all)
         have H0':=hid h0;have H1':=hid h1;have H2':=hid h2;have H3':=hid h3;have H4':=hid h4;have H5':=hid h5;have H6':=hid h6;have S6':=hid s6;have H7':=hid h7;have H8':=hid h8;have H9':=hid h9;have H10':=hid h10;have D11':=hid d11;have H12':=hid h12;have D12':=hid d12;have WB':=hid WB;clear h0 h1 h2 h3 h4 h5 h6 s6 h7 h8 h9 h10 d11 h12 d12 WB
         try simp only [Act.put,gD,gE,gF]
         go_wp2_with fail
         have h0:=H0'.out;have h1:=H1'.out;have h2:=H2'.out;have h3:=H3'.out;have h4:=H4'.out;have h5:=H5'.out;have h6:=H6'.out;have s6:=S6'.out;have h7:=H7'.out;have h8:=H8'.out;have h9:=H9'.out;have h10:=H10'.out;have d11:=D11'.out;have h12:=H12'.out;have d12:=D12'.out;have WB:=WB'.out
         exact ⟨x0,x1,x2,x3,x4,x5,x6,_,_,x9,x10,x12,A',c',(by first | (simp only [Act.put,gD,gE,gF];done) | rfl),(fun h=>h0 (by simpa using h)),(fun h=>h1 (by simpa using h)),(fun h=>h2 (by simpa using h)),(fun h=>h3 (by simpa using h)),(fun h=>h4 (by simpa using h)),(fun h=>h5 (by simpa using h)),(fun h=>h6 (by simpa using h)),(fun h=>(s6 (by simpa using h))),(fun _=>⟨by simp [q6],rfl⟩),(fun _=>⟨by simp [q6],rfl⟩),(fun h=>by have h':=h9 (by simpa using h);exact ⟨by simp [h'.1],h'.2⟩),(fun h=>by obtain ⟨g,e,hg,hk⟩:=h10 (by simpa using h);have hk':=hk;exact ⟨g,e,hg,by simpa using hk'⟩),(fun h=>by have h':=d11 (by simpa using h);simp [h']),(fun h=>h12 (by simpa using h)),(fun h=>by have h':=d12 (by simpa using h);simp [h']),WB⟩
        ·skip
         obtain ⟨x0,x1,x2,x3,x4,x5,x6,x7,x8,x9,x10,x12,A',c',rfl,h0,h1,h2,h3,h4,h5,h6,s6,h7,h8,h9,h10,d11,h12,d12,WB⟩:=hI
         simp [Region.binds] at hdep
         obtain ⟨q6,rfl⟩:=h7 (by first | exact hdep | exact hdep.1 | exact hdep.2 | exact hdep.2.1 | exact hdep.2.2 | exact hdep.2.2.1 | exact hdep.2.2.2 | simp_all)
         have H0':=hid h0;have H1':=hid h1;have H2':=hid h2;have H3':=hid h3;have H4':=hid h4;have H5':=hid h5;have H6':=hid h6;have S6':=hid s6;have H7':=hid h7;have H8':=hid h8;have H9':=hid h9;have H10':=hid h10;have D11':=hid d11;have H12':=hid h12;have D12':=hid d12;have WB':=hid WB;clear h0 h1 h2 h3 h4 h5 h6 s6 h7 h8 h9 h10 d11 h12 d12 WB
         try simp only [Act.put,gD,gE,gF]
         go_wp2_with fail
         have h0:=H0'.out;have h1:=H1'.out;have h2:=H2'.out;have h3:=H3'.out;have h4:=H4'.out;have h5:=H5'.out;have h6:=H6'.out;have s6:=S6'.out;have h7:=H7'.out;have h8:=H8'.out;have h9:=H9'.out;have h10:=H10'.out;have d11:=D11'.out;have h12:=H12'.out;have d12:=D12'.out;have WB:=WB'.out
         exact ⟨x0,x1,x2,x3,x4,x5,x6,_,x8,_,x10,x12,A',c',(by first | (simp only [Act.put,gD,gE,gF];done) | rfl),(fun h=>h0 (by simpa using h)),(fun h=>h1 (by simpa using h)),(fun h=>h2 (by simpa using h)),(fun h=>h3 (by simpa using h)),(fun h=>h4 (by simpa using h)),(fun h=>h5 (by simpa using h)),(fun h=>h6 (by simpa using h)),(fun h=>(s6 (by simpa using h))),(fun _=>⟨by simp [q6],rfl⟩),(fun h=>by have h':=h8 (by simpa using h);exact ⟨by simp [h'.1],h'.2⟩),(fun _=>⟨by simp [q6],rfl⟩),(fun h=>by obtain ⟨g,e,hg,hk⟩:=h10 (by simpa using h);have hk':=hk;exact ⟨g,e,hg,by simpa using hk'⟩),(fun h=>by have h':=d11 (by simpa using h);simp [h']),(fun h=>h12 (by simpa using h)),(fun h=>by have h':=d12 (by simpa using h);simp [h']),WB⟩
        ·skip
         obtain ⟨x0,x1,x2,x3,x4,x5,x6,x7,x8,x9,x10,x12,A',c',rfl,h0,h1,h2,h3,h4,h5,h6,s6,h7,h8,h9,h10,d11,h12,d12,WB⟩:=hI
         have qs:f 11=false:=(by cases hx:f 11 with | false=>rfl | true=>(have:=(d11 hx).1;rw [hf] at this;cases this))
         have H0':=hid h0;have H1':=hid h1;have H2':=hid h2;have H3':=hid h3;have H4':=hid h4;have H5':=hid h5;have H6':=hid h6;have S6':=hid s6;have H7':=hid h7;have H8':=hid h8;have H9':=hid h9;have H10':=hid h10;have D11':=hid d11;have H12':=hid h12;have D12':=hid d12;have WB':=hid WB;clear h0 h1 h2 h3 h4 h5 h6 s6 h7 h8 h9 h10 d11 h12 d12 WB
         try simp only [Act.put,gD,gE,gF]
         go_wp2_with fail
         have h0:=H0'.out;have h1:=H1'.out;have h2:=H2'.out;have h3:=H3'.out;have h4:=H4'.out;have h5:=H5'.out;have h6:=H6'.out;have s6:=S6'.out;have h7:=H7'.out;have h8:=H8'.out;have h9:=H9'.out;have h10:=H10'.out;have d11:=D11'.out;have h12:=H12'.out;have d12:=D12'.out;have WB:=WB'.out
         have hsw:W4.heap.size<=wx.heap.size:=WB.size
         exact ⟨x0,x1,x2,x3,x4,x5,x6,x7,x8,x9,_,x12,A',c',(by first | (simp only [Act.put,gD,gE,gF];done) | rfl),(fun h=>h0 (by simpa using h)),(fun h=>h1 (by simpa using h)),(fun h=>h2 (by simpa using h)),(fun h=>h3 (by simpa using h)),(fun h=>h4 (by simpa using h)),(fun h=>h5 (by simpa using h)),(fun h=>h6 (by simpa using h)),(fun h=>(own_below (s6 (by simpa using h)) (bw_a (Below.refl _ wx) _))),(fun h=>by have h':=h7 (by simpa using h);exact ⟨by simp [h'.1],h'.2⟩),(fun h=>by have h':=h8 (by simpa using h);exact ⟨by simp [h'.1],h'.2⟩),(fun h=>by have h':=h9 (by simpa using h);exact ⟨by simp [h'.1],h'.2⟩),(fun _=>⟨_,rfl,hsw,by simp [qs];exact Blk.new wx _ _⟩),(fun h=>by simp [qs] at h),(fun h=>h12 (by simpa using h)),(fun h=>by have h':=d12 (by simpa using h);simp [h']),(WB.trans ((bw_a (Below.refl _ wx) _).mono hsw))⟩
        ·skip
         obtain ⟨x0,x1,x2,x3,x4,x5,x6,x7,x8,x9,x10,x12,A',c',rfl,h0,h1,h2,h3,h4,h5,h6,s6,h7,h8,h9,h10,d11,h12,d12,WB⟩:=hI
         simp [Region.binds] at hdep
         obtain ⟨q6,rfl⟩:=h8 (by first | exact hdep | exact hdep.1 | exact hdep.2 | exact hdep.2.1 | exact hdep.2.2 | exact hdep.2.2.1 | exact hdep.2.2.2 | simp_all)
         have qb:f 10=true:=(by first | exact hdep | exact hdep.1 | exact hdep.2 | exact hdep.2.1 | exact hdep.2.2 | exact hdep.2.2.1 | exact hdep.2.2.2 | simp_all)
         have qsrc:f 8=true:=(by first | exact hdep | exact hdep.1 | exact hdep.2 | exact hdep.2.1 | exact hdep.2.2 | exact hdep.2.2.1 | exact hdep.2.2.2 | simp_all)
         obtain ⟨g,rfl,hg,hkg⟩:=h10 qb
         rw [hf] at hkg
         have hkg:Blk wx g 29 #[.int .u8 0,.int .u64 0,.int .u64 0,.int .u64 0,.int .u64 0,.int .u64 0,.int .u64 0,.string ⟨#[]⟩,.string ⟨#[]⟩,.slice none 0 0]:=by simpa using hkg
         have y0:=hkg.cell 0;have z0:=hkg.frozen 0
         have y1:=hkg.cell 1;have z1:=hkg.frozen 1
         have y2:=hkg.cell 2;have z2:=hkg.frozen 2
         have y3:=hkg.cell 3;have z3:=hkg.frozen 3
         have y4:=hkg.cell 4;have z4:=hkg.frozen 4
         have y5:=hkg.cell 5;have z5:=hkg.frozen 5
         have y6:=hkg.cell 6;have z6:=hkg.frozen 6
         have y7:=hkg.cell 7;have z7:=hkg.frozen 7
         have y8:=hkg.cell 8;have z8:=hkg.frozen 8
         have y9:=hkg.cell 9;have z9:=hkg.frozen 9
         simp only [gA,gB,gC] at y0 y1 y2 y3 y4 y5 y6 y7 y8 y9
         have HKG:=hid hkg
         have HGG:=hid hg
         clear hkg hg
         have H0':=hid h0;have H1':=hid h1;have H2':=hid h2;have H3':=hid h3;have H4':=hid h4;have H5':=hid h5;have H6':=hid h6;have S6':=hid s6;have H7':=hid h7;have H8':=hid h8;have H9':=hid h9;have H10':=hid h10;have D11':=hid d11;have H12':=hid h12;have D12':=hid d12;have WB':=hid WB;clear h0 h1 h2 h3 h4 h5 h6 s6 h7 h8 h9 h10 d11 h12 d12 WB
         try simp only [Act.put,gD,gE,gF]
         go_wp2_with fail
         have h0:=H0'.out;have h1:=H1'.out;have h2:=H2'.out;have h3:=H3'.out;have h4:=H4'.out;have h5:=H5'.out;have h6:=H6'.out;have s6:=S6'.out;have h7:=H7'.out;have h8:=H8'.out;have h9:=H9'.out;have h10:=H10'.out;have d11:=D11'.out;have h12:=H12'.out;have d12:=D12'.out;have WB:=WB'.out
         obtain ⟨hkn,hcn⟩:=mstore HKG.out _ _ _ _ _ _ _ _ _ _
         have hgg:=HGG.out
         exact ⟨x0,x1,x2,x3,x4,x5,x6,x7,_,x9,_,x12,A',c',(by first | (simp only [Act.put,gD,gE,gF];done) | rfl),(fun h=>h0 (by simpa using h)),(fun h=>h1 (by simpa using h)),(fun h=>h2 (by simpa using h)),(fun h=>h3 (by simpa using h)),(fun h=>h4 (by simpa using h)),(fun h=>h5 (by simpa using h)),(fun h=>h6 (by simpa using h)),(fun h=>(own_chgS (s6 (by simpa using h)) hcn (fun gg hgg e=>own_ne_blk (s6 (by simpa using h)) HKG.out (by decide) gg hgg e))),(fun h=>by have h':=h7 (by simpa using h);exact ⟨by simp [h'.1],h'.2⟩),(fun _=>⟨by simp [q6],rfl⟩),(fun h=>by have h':=h9 (by simpa using h);exact ⟨by simp [h'.1],h'.2⟩),(fun _=>⟨g,rfl,HGG.out,by simpa using hkn⟩),(fun _=>by simp [qb,qsrc]),(fun h=>h12 (by simpa using h)),(fun h=>by have h':=d12 (by simpa using h);simp [h']),(WB.trans (hcn.below (fun k hk=>Nat.le_trans HGG.out (Nat.le_of_eq hk.symm)) WB.size))⟩
        ·skip
         obtain ⟨x0,x1,x2,x3,x4,x5,x6,x7,x8,x9,x10,x12,A',c',rfl,h0,h1,h2,h3,h4,h5,h6,s6,h7,h8,h9,h10,d11,h12,d12,WB⟩:=hI
         simp [Region.binds] at hdep
         obtain ⟨q6,rfl⟩:=h9 (by first | exact hdep | exact hdep.1 | exact hdep.2 | exact hdep.2.1 | exact hdep.2.2 | exact hdep.2.2.1 | exact hdep.2.2.2 | simp_all)
         have q9:f 9=true:=(by first | exact hdep | exact hdep.1 | exact hdep.2 | exact hdep.2.1 | exact hdep.2.2 | exact hdep.2.2.1 | exact hdep.2.2.2 | simp_all)
         have H0':=hid h0;have H1':=hid h1;have H2':=hid h2;have H3':=hid h3;have H4':=hid h4;have H5':=hid h5;have H6':=hid h6;have S6':=hid s6;have H7':=hid h7;have H8':=hid h8;have H9':=hid h9;have H10':=hid h10;have D11':=hid d11;have H12':=hid h12;have D12':=hid d12;have WB':=hid WB;clear h0 h1 h2 h3 h4 h5 h6 s6 h7 h8 h9 h10 d11 h12 d12 WB
         try simp only [Act.put,gD,gE,gF]
         go_wp2_with fail
         have h0:=H0'.out;have h1:=H1'.out;have h2:=H2'.out;have h3:=H3'.out;have h4:=H4'.out;have h5:=H5'.out;have h6:=H6'.out;have s6:=S6'.out;have h7:=H7'.out;have h8:=H8'.out;have h9:=H9'.out;have h10:=H10'.out;have d11:=D11'.out;have h12:=H12'.out;have d12:=D12'.out;have WB:=WB'.out
         exact ⟨x0,x1,x2,x3,x4,x5,x6,x7,x8,_,x10,_,A',c',(by first | (simp only [Act.put,gD,gE,gF];done) | rfl),(fun h=>h0 (by simpa using h)),(fun h=>h1 (by simpa using h)),(fun h=>h2 (by simpa using h)),(fun h=>h3 (by simpa using h)),(fun h=>h4 (by simpa using h)),(fun h=>h5 (by simpa using h)),(fun h=>h6 (by simpa using h)),(fun h=>(s6 (by simpa using h))),(fun h=>by have h':=h7 (by simpa using h);exact ⟨by simp [h'.1],h'.2⟩),(fun h=>by have h':=h8 (by simpa using h);exact ⟨by simp [h'.1],h'.2⟩),(fun _=>⟨by simp [q6],rfl⟩),(fun h=>by obtain ⟨g,e,hg,hk⟩:=h10 (by simpa using h);have hk':=hk;exact ⟨g,e,hg,by simpa using hk'⟩),(fun h=>by have h':=d11 (by simpa using h);simp [h']),(fun _=>rfl),(fun _=>by simp [q9]),WB⟩
       ·intro f a' wx hall hI
        obtain ⟨x0,x1,x2,x3,x4,x5,x6,x7,x8,x9,x10,x12,A',c',rfl,h0,h1,h2,h3,h4,h5,h6,s6,h7,h8,h9,h10,d11,h12,d12,WB⟩:=hI
        obtain rfl:=h0 (hall 0 (by simp))
        obtain rfl:=h1 (hall 1 (by simp))
        obtain rfl:=h2 (hall 2 (by simp))
        obtain rfl:=h3 (hall 3 (by simp))
        obtain rfl:=h4 (hall 4 (by simp))
        obtain rfl:=h5 (hall 5 (by simp))
        obtain rfl:=h6 (hall 6 (by simp))
        obtain ⟨-,rfl⟩:=h7 (hall 7 (by simp))
        obtain ⟨-,rfl⟩:=h8 (hall 8 (by simp))
        obtain ⟨-,rfl⟩:=h9 (hall 9 (by simp))
        obtain rfl:=h12 (hall 12 (by simp))
        obtain ⟨z,rfl,hz,hkz⟩:=h10 (hall 10 (by simp))
        rw [hall 11 (by simp),if_pos rfl] at hkz
        have hom:=s6 (hall 6 (by simp))
        have HKZ:=hid hkz
        have HOM:=hid hom
        have HBW:=hid WB
        clear h0 h1 h2 h3 h4 h5 h6 s6 h7 h8 h9 h10 d11 h12 d12 WB hkz hom hall f
        try simp only [Act.put,gD,gE,gF]
        by_cases hE:E=0
        ·subst hE
         have z0:=HKZ.out.cell 0
         have z1:=HKZ.out.cell 1
         have z2:=HKZ.out.cell 2
         have z3:=HKZ.out.cell 3
         have z4:=HKZ.out.cell 4
         have z5:=HKZ.out.cell 5
         have z6:=HKZ.out.cell 6
         have z7:=HKZ.out.cell 7
         have z8:=HKZ.out.cell 8
         have z9:=HKZ.out.cell 9
         have HM5:=hid ((HMM.out.below HBW.out HMM.out.lt))
         have m0:=HM5.out.cell 0
         have m1:=HM5.out.cell 1
         have m2:=HM5.out.cell 2
         have m3:=HM5.out.cell 3
         have m4:=HM5.out.cell 4
         have m5:=HM5.out.cell 5
         have m6:=HM5.out.cell 6
         have m7:=HM5.out.cell 7
         have m8:=HM5.out.cell 8
         have m9:=HM5.out.cell 9
         have n0:=HM5.out.frozen 0
         have n1:=HM5.out.frozen 1
         have n2:=HM5.out.frozen 2
         have n3:=HM5.out.frozen 3
         have n4:=HM5.out.frozen 4
         have n5:=HM5.out.frozen 5
         have n6:=HM5.out.frozen 6
         have n7:=HM5.out.frozen 7
         have n8:=HM5.out.frozen 8
         have n9:=HM5.out.frozen 9
         simp only [gA,gB,gC] at z0 z1 z2 z3 z4 z5 z6 z7 z8 z9 m0 m1 m2 m3 m4 m5 m6 m7 m8 m9
         go_wp2_with fail
         go_roundw
         case rel =>
          obtain ⟨hkn,hcn⟩:=mstore HM5.out (.int .u8 (R.k:Int)) (.int .u64 (R.n0:Int)) (.int .u64 (R.n1:Int)) (.int .u64 (R.n2:Int)) (.int .u64 (R.n3:Int)) (.int .u64 (R.n4:Int)) (.int .u64 (R.n5:Int)) (.string R.s0) (.string R.s1) (.slice A' R.l.length c')
          have hb5:=HB4.out.trans (HBW.out.mono HB4.out.size)
          have hJ:=HJ.out
          have l:=hJ.mm.lt
          have hdf:=decF_step r HGR.out x (by rw [<-HFR.out.1,<-HFR.out.2.1];exact HOR.out) (by rw [<-HFV.out,HRN.out.1,HRN.out.2,HEE.out]) hJ.fin
          rw [<-HFV.out,HRN.out.1,HRN.out.2,<-HFR.out.2.2.1] at hdf
          simp only [HRR.out] at hdf
          refine ⟨j+1,R,A',c',by omega,by go_num,hcn.blk (hJ.km.below hb5 hJ.km.lt) (by omega),hcn.blk (hJ.kf.below hb5 hJ.kf.lt) (by omega),hkn,?_,(hJ.bel.trans (hb5.mono (by have:=hJ.km.lt;omega))).trans (hcn.below (fun x hx=>by omega) (by have:=hJ.km.lt;have:=hb5.size;omega)),(hJ.bq.trans (hb5.mono (by omega))).trans (hcn.below (fun x hx=>by omega) (by have:=hb5.size;omega)),?_,hdf⟩
          ·exact own_chgS HOM.out hcn (fun gg hgg e=>own_ne_blk HOM.out HM5.out (by decide) gg hgg e)
          ·rw [<-HRR.out];exact setM_len _ _ _ _ _ hJ.len
         case measure=>simp [intOf];omega
        ·have e5:(E != 0)=true:=by simpa using hE
         go_wp2_with fail
         have hb5:=HB4.out.trans (HBW.out.mono HB4.out.size)
         have HKM:=hid (HJ.out.km.below hb5 HJ.out.km.lt)
         have HKF:=hid (HJ.out.kf.below hb5 HJ.out.kf.lt)
         have HT4w:=hid ((HBW.out.cell (p:=⟨bl,ol+j * 5+4,none⟩) HBL4.out).trans HU4.out)
         have HBLw:=hid (Nat.lt_of_lt_of_le HBL4.out HBW.out.size)
         have HB5:=hid hb5
         have HNB:=hid (show ¬ (bl=s\/bl=s+1) from HNS0.out)
         clear hb5
         refine wp_region_invB (by kernel_rfl) (by kernel_rfl) (RcR16 s bl ol j np cl E fat) ?_ ?_ ?_
         ·exact ⟨u70,u71,u72,u73,u74,u75,u76,u77,(by first | (simp only [Act.put,gD,gE,gF];done) | rfl),by simp,by simp,by simp,by simp,by simp,by simp,by simp,by simp,(by simp;exact (HKM.out)),(by simp;exact (HKF.out)),⟨rfl,rfl,rfl,Nat.le_refl _,fun _ _ _=>rfl⟩⟩
         ·intro f a' wx i o ho hf hdep hI
          have hi:i < 10:=(Array.getElem?_eq_some_iff.1 ho).1
          have hcase:i=0\/i=1\/i=2\/i=3\/i=4\/i=5\/i=6\/i=7\/i=8\/i=9:=by omega
          clear hi
          rcases hcase with rfl | rfl | rfl | rfl | rfl | rfl | rfl | rfl | rfl | rfl
          all_goals
           simp only [gA,gB,gC,Option.some.injEq] at ho
           subst ho
          ·skip
           obtain ⟨x0,x1,x2,x3,x4,x5,x6,x7,rfl,h0,h1,h2,h3,h4,h5,h6,h7,k8,k9,hC⟩:=hI
           have H0':=hid h0;have H1':=hid h1;have H2':=hid h2;have H3':=hid h3;have H4':=hid h4;have H5':=hid h5;have H6':=hid h6;have H7':=hid h7;have K8':=hid k8;have K9':=hid k9;have HC':=hid hC;clear h0 h1 h2 h3 h4 h5 h6 h7 k8 k9 hC
           try simp only [Act.put,gD,gE,gF]
           go_wp2_with fail
           have h0:=H0'.out;have h1:=H1'.out;have h2:=H2'.out;have h3:=H3'.out;have h4:=H4'.out;have h5:=H5'.out;have h6:=H6'.out;have h7:=H7'.out;have k8:=K8'.out;have k9:=K9'.out;have hC:=HC'.out
           exact ⟨_,x1,x2,x3,x4,x5,x6,x7,(by first | (simp only [Act.put,gD,gE,gF];done) | rfl),(fun _=>rfl),(fun h=>h1 (by simpa using h)),(fun h=>h2 (by simpa using h)),(fun h=>h3 (by simpa using h)),(fun h=>h4 (by simpa using h)),(fun h=>h5 (by simpa using h)),(fun h=>h6 (by simpa using h)),(fun h=>h7 (by simpa using h)),(by simpa using k8),(by simpa using k9),hC⟩
          ·skip
           obtain ⟨x0,x1,x2,x3,x4,x5,x6,x7,rfl,h0,h1,h2,h3,h4,h5,h6,h7,k8,k9,hC⟩:=hI
           have H0':=hid h0;have H1':=hid h1;have H2':=hid h2;have H3':=hid h3;have H4':=hid h4;have H5':=hid h5;have H6':=hid h6;have H7':=hid h7;have K8':=hid k8;have K9':=hid k9;have HC':=hid hC;clear h0 h1 h2 h3 h4 h5 h6 h7 k8 k9 hC
           try simp only [Act.put,gD,gE,gF]
           go_wp2_with fail
           have h0:=H0'.out;have h1:=H1'.out;have h2:=H2'.out;have h3:=H3'.out;have h4:=H4'.out;have h5:=H5'.out;have h6:=H6'.out;have h7:=H7'.out;have k8:=K8'.out;have k9:=K9'.out;have hC:=HC'.out
           exact ⟨x0,_,x2,x3,x4,x5,x6,x7,(by first | (simp only [Act.put,gD,gE,gF];done) | rfl),(fun h=>h0 (by simpa using h)),(fun _=>rfl),(fun h=>h2 (by simpa using h)),(fun h=>h3 (by simpa using h)),(fun h=>h4 (by simpa using h)),(fun h=>h5 (by simpa using h)),(fun h=>h6 (by simpa using h)),(fun h=>h7 (by simpa using h)),(by simpa using k8),(by simpa using k9),hC⟩
          ·skip
           obtain ⟨x0,x1,x2,x3,x4,x5,x6,x7,rfl,h0,h1,h2,h3,h4,h5,h6,h7,k8,k9,hC⟩:=hI
           have H0':=hid h0;have H1':=hid h1;have H2':=hid h2;have H3':=hid h3;have H4':=hid h4;have H5':=hid h5;have H6':=hid h6;have H7':=hid h7;have K8':=hid k8;have K9':=hid k9;have HC':=hid hC;clear h0 h1 h2 h3 h4 h5 h6 h7 k8 k9 hC
           try simp only [Act.put,gD,gE,gF]
           go_wp2_with fail
           have h0:=H0'.out;have h1:=H1'.out;have h2:=H2'.out;have h3:=H3'.out;have h4:=H4'.out;have h5:=H5'.out;have h6:=H6'.out;have h7:=H7'.out;have k8:=K8'.out;have k9:=K9'.out;have hC:=HC'.out
           exact ⟨x0,x1,_,x3,x4,x5,x6,x7,(by first | (simp only [Act.put,gD,gE,gF];done) | rfl),(fun h=>h0 (by simpa using h)),(fun h=>h1 (by simpa using h)),(fun _=>rfl),(fun h=>h3 (by simpa using h)),(fun h=>h4 (by simpa using h)),(fun h=>h5 (by simpa using h)),(fun h=>h6 (by simpa using h)),(fun h=>h7 (by simpa using h)),(by simpa using k8),(by simpa using k9),hC⟩
          ·skip
           obtain ⟨x0,x1,x2,x3,x4,x5,x6,x7,rfl,h0,h1,h2,h3,h4,h5,h6,h7,k8,k9,hC⟩:=hI
           have H0':=hid h0;have H1':=hid h1;have H2':=hid h2;have H3':=hid h3;have H4':=hid h4;have H5':=hid h5;have H6':=hid h6;have H7':=hid h7;have K8':=hid k8;have K9':=hid k9;have HC':=hid hC;clear h0 h1 h2 h3 h4 h5 h6 h7 k8 k9 hC
           try simp only [Act.put,gD,gE,gF]
           go_wp2_with fail
           have h0:=H0'.out;have h1:=H1'.out;have h2:=H2'.out;have h3:=H3'.out;have h4:=H4'.out;have h5:=H5'.out;have h6:=H6'.out;have h7:=H7'.out;have k8:=K8'.out;have k9:=K9'.out;have hC:=HC'.out
           exact ⟨x0,x1,x2,_,x4,x5,x6,x7,(by first | (simp only [Act.put,gD,gE,gF];done) | rfl),(fun h=>h0 (by simpa using h)),(fun h=>h1 (by simpa using h)),(fun h=>h2 (by simpa using h)),(fun _=>rfl),(fun h=>h4 (by simpa using h)),(fun h=>h5 (by simpa using h)),(fun h=>h6 (by simpa using h)),(fun h=>h7 (by simpa using h)),(by simpa using k8),(by simpa using k9),hC⟩
          ·skip
           obtain ⟨x0,x1,x2,x3,x4,x5,x6,x7,rfl,h0,h1,h2,h3,h4,h5,h6,h7,k8,k9,hC⟩:=hI
           simp [Region.binds] at hdep
           obtain rfl:=h2 (by first | exact hdep | exact hdep.1 | exact hdep.2 | exact hdep.2.1 | exact hdep.2.2 | exact hdep.2.2.1 | exact hdep.2.2.2 | simp_all)
           obtain rfl:=h3 (by first | exact hdep | exact hdep.1 | exact hdep.2 | exact hdep.2.1 | exact hdep.2.2 | exact hdep.2.2.1 | exact hdep.2.2.2 | simp_all)
           have H0':=hid h0;have H1':=hid h1;have H2':=hid h2;have H3':=hid h3;have H4':=hid h4;have H5':=hid h5;have H6':=hid h6;have H7':=hid h7;have K8':=hid k8;have K9':=hid k9;have HC':=hid hC;clear h0 h1 h2 h3 h4 h5 h6 h7 k8 k9 hC
           try simp only [Act.put,gD,gE,gF]
           go_wp2_with fail
           have h0:=H0'.out;have h1:=H1'.out;have h2:=H2'.out;have h3:=H3'.out;have h4:=H4'.out;have h5:=H5'.out;have h6:=H6'.out;have h7:=H7'.out;have k8:=K8'.out;have k9:=K9'.out;have hC:=HC'.out
           exact ⟨x0,x1,_,_,_,x5,x6,x7,(by first | (simp only [Act.put,gD,gE,gF];done) | rfl),(fun h=>h0 (by simpa using h)),(fun h=>h1 (by simpa using h)),(fun _=>rfl),(fun _=>rfl),(fun _=>rfl),(fun h=>h5 (by simpa using h)),(fun h=>h6 (by simpa using h)),(fun h=>h7 (by simpa using h)),(by simpa using k8),(by simpa using k9),hC⟩
          ·skip
           obtain ⟨x0,x1,x2,x3,x4,x5,x6,x7,rfl,h0,h1,h2,h3,h4,h5,h6,h7,k8,k9,hC⟩:=hI
           simp [Region.binds] at hdep
           obtain rfl:=h4 (by first | exact hdep | exact hdep.1 | exact hdep.2 | exact hdep.2.1 | exact hdep.2.2 | exact hdep.2.2.1 | exact hdep.2.2.2 | simp_all)
           have H0':=hid h0;have H1':=hid h1;have H2':=hid h2;have H3':=hid h3;have H4':=hid h4;have H5':=hid h5;have H6':=hid h6;have H7':=hid h7;have K8':=hid k8;have K9':=hid k9;have HC':=hid hC;clear h0 h1 h2 h3 h4 h5 h6 h7 k8 k9 hC
           try simp only [Act.put,gD,gE,gF]
           go_wp2_with fail
           have h0:=H0'.out;have h1:=H1'.out;have h2:=H2'.out;have h3:=H3'.out;have h4:=H4'.out;have h5:=H5'.out;have h6:=H6'.out;have h7:=H7'.out;have k8:=K8'.out;have k9:=K9'.out;have hC:=HC'.out
           exact ⟨x0,x1,x2,x3,_,_,x6,x7,(by first | (simp only [Act.put,gD,gE,gF];done) | rfl),(fun h=>h0 (by simpa using h)),(fun h=>h1 (by simpa using h)),(fun h=>h2 (by simpa using h)),(fun h=>h3 (by simpa using h)),(fun _=>rfl),(fun _=>rfl),(fun h=>h6 (by simpa using h)),(fun h=>h7 (by simpa using h)),(by simpa using k8),(by simpa using k9),hC⟩
          ·skip
           obtain ⟨x0,x1,x2,x3,x4,x5,x6,x7,rfl,h0,h1,h2,h3,h4,h5,h6,h7,k8,k9,hC⟩:=hI
           simp [Region.binds] at hdep
           obtain rfl:=h5 (by first | exact hdep | exact hdep.1 | exact hdep.2 | exact hdep.2.1 | exact hdep.2.2 | exact hdep.2.2.1 | exact hdep.2.2.2 | simp_all)
           have t4:=(chg_cell hC (p:=⟨bl,ol+j * 5+4,none⟩) HBLw.out HNB.out).trans HT4w.out
           have H0':=hid h0;have H1':=hid h1;have H2':=hid h2;have H3':=hid h3;have H4':=hid h4;have H5':=hid h5;have H6':=hid h6;have H7':=hid h7;have K8':=hid k8;have K9':=hid k9;have HC':=hid hC;clear h0 h1 h2 h3 h4 h5 h6 h7 k8 k9 hC
           try simp only [Act.put,gD,gE,gF]
           go_wp2_with fail
           have h0:=H0'.out;have h1:=H1'.out;have h2:=H2'.out;have h3:=H3'.out;have h4:=H4'.out;have h5:=H5'.out;have h6:=H6'.out;have h7:=H7'.out;have k8:=K8'.out;have k9:=K9'.out;have hC:=HC'.out
           exact ⟨x0,x1,x2,x3,x4,_,_,x7,(by first | (simp only [Act.put,gD,gE,gF];done) | rfl),(fun h=>h0 (by simpa using h)),(fun h=>h1 (by simpa using h)),(fun h=>h2 (by simpa using h)),(fun h=>h3 (by simpa using h)),(fun h=>h4 (by simpa using h)),(fun _=>rfl),(fun _=>rfl),(fun h=>h7 (by simpa using h)),(by simpa using k8),(by simpa using k9),hC⟩
          ·skip
           obtain ⟨x0,x1,x2,x3,x4,x5,x6,x7,rfl,h0,h1,h2,h3,h4,h5,h6,h7,k8,k9,hC⟩:=hI
           simp [Region.binds] at hdep
           obtain rfl:=h1 (by first | exact hdep | exact hdep.1 | exact hdep.2 | exact hdep.2.1 | exact hdep.2.2 | exact hdep.2.2.1 | exact hdep.2.2.2 | simp_all)
           obtain rfl:=h6 (by first | exact hdep | exact hdep.1 | exact hdep.2 | exact hdep.2.1 | exact hdep.2.2 | exact hdep.2.2.1 | exact hdep.2.2.2 | simp_all)
           have H0':=hid h0;have H1':=hid h1;have H2':=hid h2;have H3':=hid h3;have H4':=hid h4;have H5':=hid h5;have H6':=hid h6;have H7':=hid h7;have K8':=hid k8;have K9':=hid k9;have HC':=hid hC;clear h0 h1 h2 h3 h4 h5 h6 h7 k8 k9 hC
           try simp only [Act.put,gD,gE,gF]
           go_wp2_with fail
           have h0:=H0'.out;have h1:=H1'.out;have h2:=H2'.out;have h3:=H3'.out;have h4:=H4'.out;have h5:=H5'.out;have h6:=H6'.out;have h7:=H7'.out;have k8:=K8'.out;have k9:=K9'.out;have hC:=HC'.out
           exact ⟨x0,_,x2,x3,x4,x5,_,_,(by first | (simp only [Act.put,gD,gE,gF];done) | rfl),(fun h=>h0 (by simpa using h)),(fun _=>rfl),(fun h=>h2 (by simpa using h)),(fun h=>h3 (by simpa using h)),(fun h=>h4 (by simpa using h)),(fun h=>h5 (by simpa using h)),(fun _=>rfl),(fun _=>rfl),(by simpa using k8),(by simpa using k9),hC⟩
          ·skip
           obtain ⟨x0,x1,x2,x3,x4,x5,x6,x7,rfl,h0,h1,h2,h3,h4,h5,h6,h7,k8,k9,hC⟩:=hI
           simp [Region.binds] at hdep
           obtain rfl:=h0 (by first | exact hdep | exact hdep.1 | exact hdep.2 | exact hdep.2.1 | exact hdep.2.2 | exact hdep.2.2.1 | exact hdep.2.2.2 | simp_all)
           have hko:Blk wx (s) 29 #[.int .u8 0,.int .u64 0,.int .u64 0,.int .u64 0,.int .u64 0,.int .u64 0,.int .u64 0,.string ⟨#[]⟩,.string ⟨#[]⟩,.slice none 0 0]:=by have h:=k8;rw [hf] at h;simpa using h
           have y0:=hko.cell 0;have z0:=hko.frozen 0
           have y1:=hko.cell 1;have z1:=hko.frozen 1
           have y2:=hko.cell 2;have z2:=hko.frozen 2
           have y3:=hko.cell 3;have z3:=hko.frozen 3
           have y4:=hko.cell 4;have z4:=hko.frozen 4
           have y5:=hko.cell 5;have z5:=hko.frozen 5
           have y6:=hko.cell 6;have z6:=hko.frozen 6
           have y7:=hko.cell 7;have z7:=hko.frozen 7
           have y8:=hko.cell 8;have z8:=hko.frozen 8
           have y9:=hko.cell 9;have z9:=hko.frozen 9
           simp only [gA,gB,gC] at y0 y1 y2 y3 y4 y5 y6 y7 y8 y9
           have HKO:=hid hko;clear hko
           have H0':=hid h0;have H1':=hid h1;have H2':=hid h2;have H3':=hid h3;have H4':=hid h4;have H5':=hid h5;have H6':=hid h6;have H7':=hid h7;have K8':=hid k8;have K9':=hid k9;have HC':=hid hC;clear h0 h1 h2 h3 h4 h5 h6 h7 k8 k9 hC
           try simp only [Act.put,gD,gE,gF]
           go_wp2_with fail
           have h0:=H0'.out;have h1:=H1'.out;have h2:=H2'.out;have h3:=H3'.out;have h4:=H4'.out;have h5:=H5'.out;have h6:=H6'.out;have h7:=H7'.out;have k8:=K8'.out;have k9:=K9'.out;have hC:=HC'.out
           obtain ⟨hkn,hcn⟩:=mstore HKO.out _ _ _ _ _ _ _ _ _ _
           exact ⟨_,x1,x2,x3,x4,x5,x6,x7,(by first | (simp only [Act.put,gD,gE,gF];done) | rfl),(fun _=>rfl),(fun h=>h1 (by simpa using h)),(fun h=>h2 (by simpa using h)),(fun h=>h3 (by simpa using h)),(fun h=>h4 (by simpa using h)),(fun h=>h5 (by simpa using h)),(fun h=>h6 (by simpa using h)),(fun h=>h7 (by simpa using h)),(by simpa using hkn),(hcn.blk (by simpa using k9) (by omega)),(hC.trans (hcn.mono (fun q _ hq=>by subst hq;simp)))⟩
          ·skip
           obtain ⟨x0,x1,x2,x3,x4,x5,x6,x7,rfl,h0,h1,h2,h3,h4,h5,h6,h7,k8,k9,hC⟩:=hI
           simp [Region.binds] at hdep
           obtain rfl:=h7 (by first | exact hdep | exact hdep.1 | exact hdep.2 | exact hdep.2.1 | exact hdep.2.2 | exact hdep.2.2.1 | exact hdep.2.2.2 | simp_all)
           have hko:Blk wx (s+1) 32 #[.int .i64 0,.int .i64 0]:=by have h:=k9;rw [hf] at h;simpa using h
           have y0:=hko.cell 0;have z0:=hko.frozen 0
           have y1:=hko.cell 1;have z1:=hko.frozen 1
           simp only [gA,gB,gC] at y0 y1
           have HKO:=hid hko;clear hko
           have H0':=hid h0;have H1':=hid h1;have H2':=hid h2;have H3':=hid h3;have H4':=hid h4;have H5':=hid h5;have H6':=hid h6;have H7':=hid h7;have K8':=hid k8;have K9':=hid k9;have HC':=hid hC;clear h0 h1 h2 h3 h4 h5 h6 h7 k8 k9 hC
           try simp only [Act.put,gD,gE,gF]
           go_wp2_with fail
           have h0:=H0'.out;have h1:=H1'.out;have h2:=H2'.out;have h3:=H3'.out;have h4:=H4'.out;have h5:=H5'.out;have h6:=H6'.out;have h7:=H7'.out;have k8:=K8'.out;have k9:=K9'.out;have hC:=HC'.out
           obtain ⟨hkn,hcn⟩:=fstore HKO.out _ _
           exact ⟨x0,x1,x2,x3,x4,x5,x6,_,(by first | (simp only [Act.put,gD,gE,gF];done) | rfl),(fun h=>h0 (by simpa using h)),(fun h=>h1 (by simpa using h)),(fun h=>h2 (by simpa using h)),(fun h=>h3 (by simpa using h)),(fun h=>h4 (by simpa using h)),(fun h=>h5 (by simpa using h)),(fun h=>h6 (by simpa using h)),(fun _=>rfl),(hcn.blk (by simpa using k8) (by omega)),(by simpa using hkn),(hC.trans (hcn.mono (fun q _ hq=>by subst hq;simp)))⟩
         ·intro f a' wx hall hI
          obtain ⟨x0,x1,x2,x3,x4,x5,x6,x7,rfl,h0,h1,h2,h3,h4,h5,h6,h7,k8,k9,hC⟩:=hI
          obtain rfl:=h0 (hall 0 (by simp))
          obtain rfl:=h1 (hall 1 (by simp))
          obtain rfl:=h2 (hall 2 (by simp))
          obtain rfl:=h3 (hall 3 (by simp))
          obtain rfl:=h4 (hall 4 (by simp))
          obtain rfl:=h5 (hall 5 (by simp))
          obtain rfl:=h6 (hall 6 (by simp))
          obtain rfl:=h7 (hall 7 (by simp))
          have kf8:=k8;rw [hall 8 (by simp),if_pos rfl] at kf8
          have kf9:=k9;rw [hall 9 (by simp),if_pos rfl] at kf9
          clear h0 h1 h2 h3 h4 h5 h6 h7 k8 k9 hall f
          try simp only [Act.put,gD,gE,gF]
          go_wp2_with fail
          have x0:=kf8.cell 0
          have x1:=kf8.cell 1
          have x2:=kf8.cell 2
          have x3:=kf8.cell 3
          have x4:=kf8.cell 4
          have x5:=kf8.cell 5
          have x6:=kf8.cell 6
          have x7:=kf8.cell 7
          have x8:=kf8.cell 8
          have x9:=kf8.cell 9
          have y0:=kf9.cell 0
          have y1:=kf9.cell 1
          simp only [gA,gB,gC] at x0 x1 x2 x3 x4 x5 x6 x7 x8 x9 y0 y1
          have hJ:=HJ.out
          have l:=hJ.km.lt
          have hbR:=(hJ.bel.trans (HB5.out.mono (by omega))).trans (hC.below (B:=s) (fun x hx=>by omega) (by have:=HB5.out.size;omega))
          have hbd:=hJ.bad r HGR.out x (by rw [<-HFR.out.1,<-HFR.out.2.1];exact HOR.out) (by rw [<-HFV.out,HRN.out.1,HRN.out.2,HEE.out];exact hE)
          rw [<-HFV.out,HRN.out.1,HRN.out.2,HEE.out] at hbd
          have h5:=HR5.out
          rw [hbd] at h5
          simp only at h5
          rw [if_pos hE] at h5
          have hat:((r.2:Nat):Int)=fat:=HFR.out.2.2.2.2.symm
          refine bodyPost_ret (v:=.tuple #[.agg #[.int .u8 0,.int .u64 0,.int .u64 0,.int .u64 0,.int .u64 0,.int .u64 0,.int .u64 0,.string ⟨#[]⟩,.string ⟨#[]⟩,.slice none 0 0],.agg #[.int .i64 E,.int .i64 fat]]) (by simp [results,Tryz.results15,go_sem,x0,x1,x2,x3,x4,x5,x6,x7,x8,x9,y0,y1]) rfl ?_
          rw [<-hat]
          exact HBAD.out _ _ _ h5 hbR
     ·obtain rfl:j=np:=by omega
      have hd:FS.drop j=[]:=List.drop_eq_nil_of_le (by have:=HLA.out;have:=HNP.out;omega)
      have hfin:=hJ.fin
      rw [hd] at hfin
      simp only [decF] at hfin
      have h5:=HR5.out
      rw [hfin.2] at h5
      simp only at h5
      rw [if_neg (by simp)] at h5
      have hom:=hJ.om
      have hbel:=hJ.bel
      have hlm:=hJ.km.lt
      have HH5:=hid (show ∃ O,readR k v bs=(M,O,0,0) from ⟨(decF L M0 FS).2.1,by rw [h5];exact Prod.ext hfin.1 (Prod.ext rfl hfin.2)⟩)
      have HKM:=hid hJ.km
      have HKF:=hid hJ.kf
      have HMM:=hid hJ.mm
      have HOM:=hid hom
      have HBE:=hid hbel
      clear hd hfin h5 hom hbel hJ
      have m0:=HMM.out.cell 0
      have m1:=HMM.out.cell 1
      have m2:=HMM.out.cell 2
      have m3:=HMM.out.cell 3
      have m4:=HMM.out.cell 4
      have m5:=HMM.out.cell 5
      have m6:=HMM.out.cell 6
      have m7:=HMM.out.cell 7
      have m8:=HMM.out.cell 8
      have m9:=HMM.out.cell 9
      simp only [gA,gB,gC] at m0 m1 m2 m3 m4 m5 m6 m7 m8 m9
      have cq0:=HKM.out.cell 0
      have cq1:=HKM.out.cell 1
      have cq2:=HKM.out.cell 2
      have cq3:=HKM.out.cell 3
      have cq4:=HKM.out.cell 4
      have cq5:=HKM.out.cell 5
      have cq6:=HKM.out.cell 6
      have cq7:=HKM.out.cell 7
      have cq8:=HKM.out.cell 8
      have cq9:=HKM.out.cell 9
      have dq0:=HKF.out.cell 0
      have dq1:=HKF.out.cell 1
      simp only [gA,gB,gC] at cq0 cq1 cq2 cq3 cq4 cq5 cq6 cq7 cq8 cq9 dq0 dq1
      have fq0:=HKM.out.frozen 0
      have fq1:=HKM.out.frozen 1
      have fq2:=HKM.out.frozen 2
      have fq3:=HKM.out.frozen 3
      have fq4:=HKM.out.frozen 4
      have fq5:=HKM.out.frozen 5
      have fq6:=HKM.out.frozen 6
      have fq7:=HKM.out.frozen 7
      have fq8:=HKM.out.frozen 8
      have fq9:=HKM.out.frozen 9
      have gq0:=HKF.out.frozen 0
      have gq1:=HKF.out.frozen 1
      go_wp2_with fail
      obtain ⟨r6,r7,rc⟩:=rstD2 HKM.out HKF.out (.int .u8 (M.k:Int)) (.int .u64 (M.n0:Int)) (.int .u64 (M.n1:Int)) (.int .u64 (M.n2:Int)) (.int .u64 (M.n3:Int)) (.int .u64 (M.n4:Int)) (.int .u64 (M.n5:Int)) (.string M.s0) (.string M.s1) (.slice A1 M.l.length c1) (.int .i64 0) (.int .i64 0)
      clear cq0 cq1 cq2 cq3 cq4 cq5 cq6 cq7 cq8 cq9 dq0 dq1 fq0 fq1 fq2 fq3 fq4 fq5 fq6 fq7 fq8 fq9 gq0 gq1
      have hW9:∃ W9,rWD2 wr s (.int .u8 (M.k:Int)) (.int .u64 (M.n0:Int)) (.int .u64 (M.n1:Int)) (.int .u64 (M.n2:Int)) (.int .u64 (M.n3:Int)) (.int .u64 (M.n4:Int)) (.int .u64 (M.n5:Int)) (.string M.s0) (.string M.s1) (.slice A1 M.l.length c1) (.int .i64 0) (.int .i64 0)=W9:=⟨_,rfl⟩
      obtain ⟨W9,hW9⟩:=hW9
      rw [hW9] at r6 r7 rc
      unfold rWD2 at hW9
      rw [hW9]
      clear hW9
      have x0:=r6.cell 0
      have x1:=r6.cell 1
      have x2:=r6.cell 2
      have x3:=r6.cell 3
      have x4:=r6.cell 4
      have x5:=r6.cell 5
      have x6:=r6.cell 6
      have x7:=r6.cell 7
      have x8:=r6.cell 8
      have x9:=r6.cell 9
      have y0:=r7.cell 0
      have y1:=r7.cell 1
      simp only [gA,gB,gC] at x0 x1 x2 x3 x4 x5 x6 x7 x8 x9 y0 y1
      refine bodyPost_ret (v:=.tuple #[.agg #[.int .u8 (M.k:Int),.int .u64 (M.n0:Int),.int .u64 (M.n1:Int),.int .u64 (M.n2:Int),.int .u64 (M.n3:Int),.int .u64 (M.n4:Int),.int .u64 (M.n5:Int),.string M.s0,.string M.s1,.slice A1 M.l.length c1],.agg #[.int .i64 0,.int .i64 0]]) (by simp [results,Tryz.results15,go_sem,x0,x1,x2,x3,x4,x5,x6,x7,x8,x9,y0,y1]) rfl ?_
      obtain ⟨O,hO5⟩:=HH5.out;exact HGOOD.out M O A1 c1 _ hO5 (own_chgS HOM.out rc (fun gg hgg hx=>hx.elim (fun hx=>own_ne_blk HOM.out HKM.out (by decide) gg hgg hx) (fun hx=>own_ne_blk HOM.out HKF.out (by decide) gg hgg hx))) (HBE.out.trans (rc.below (B:=s) (fun q hq=>by omega) (by omega)))
end Go.Proofs.YtpmfdlghckfgiaaGreat
