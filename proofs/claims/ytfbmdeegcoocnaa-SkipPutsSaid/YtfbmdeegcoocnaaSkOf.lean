/- skip.Of, skip.Without, skip.Last. -/
import Derived.Test.YtfbmdeegcoocnaaSkOwn
set_option linter.unusedVariables false
namespace Go.Proofs.Ytfbmdeegcoocnaa
open Go.RowKit
theorem FvOk.below {w w' : World} {f : FV} (h : FvOk w f) (hb : Below w.heap.size w w') : FvOk w' f := ⟨h.w0, h.w1, h.n, h.n1, h.n2, h.a1, h.a2, h.s.below hb⟩
/-- What comes of choosing. -/
def Chosen (B : Nat) (ks : List (Int × Int × Nat × List UInt8 × Int)) (w : World) (e : Ending) (w' : World) : Prop :=
  ∃ (v : Value) (fs : List FV), e = .returned v ∧ w'.ownsRow B 39 5 v fs.length (fs.flatMap fvC) ∧ fs.map fvK = ks ∧ (∀ f ∈ fs, FvOwn B w' f) ∧ Below B w w'
set_option maxRecDepth 100000 in
set_option maxHeartbeats 2000000 in
theorem sof_any (l : List FV) (m : Nat) (A : Option Addr) (c : Nat) (num : Int) (w : World) (hm : l.length = m) (hm2 : m ≤ 2000) (hl : SlN w A m c 5 (l.flatMap fvC)) (hok : ∀ f ∈ l, FvOk w f) (hx : ∀ f ∈ l, f.s.xs.length ≤ 2000) :
    Calls Try.prog 24 #[.slice A m c, .int .i64 num] w (Chosen w.heap.size ((l.filter fun f => decide (f.num = num)).map fvK) w) := by
  have hmf := func_run (P := Try.prog)
  have hb1 := bw_a (Below.refl w.heap.size w) (.cells #[.int .i64 num] 3)
  have hc1 : (w.alloc (.cells #[.int .i64 num] 3)).cell? ⟨w.heap.size, 0, none⟩ = some (.int .i64 num) := (Blk.new w 3 #[.int .i64 num]).cell 0
  have hch := chosen_any l m A c (w.alloc (.cells #[.int .i64 num] 3)) 58 w.heap.size (fun f => decide (f.num = num)) hm hm2 (hl.below hb1) (fun f hf => (hok f hf).below hb1) hx (fun args W => by kernel_rfl)
    (fun W f hW => of1_any W w.heap.size num f ((hW.cell (p := ⟨w.heap.size, 0, none⟩) (by simp)).trans hc1))
  have HCH := hid hch
  have HB := hid hb1
  clear hch hl hok hx hb1 hc1
  go_enter Try.func24, Try.ntmps24
  go_wp2_with fail
  refine HCH.out.mono ?_
  rintro e w2 ⟨v, fs, rfl, ho, hfs, hown, hb⟩
  go_wp2_with fail
  go_ret
  exact ⟨v, fs, rfl, own_mono ho (by simp), hfs, fun f hf => own_mono (hown f hf) (by simp), bw_t HB.out hb⟩
set_option maxRecDepth 100000 in
set_option maxHeartbeats 2000000 in
theorem swo_any (l : List FV) (m : Nat) (A : Option Addr) (c : Nat) (num : Int) (w : World) (hm : l.length = m) (hm2 : m ≤ 2000) (hl : SlN w A m c 5 (l.flatMap fvC)) (hok : ∀ f ∈ l, FvOk w f) (hx : ∀ f ∈ l, f.s.xs.length ≤ 2000) :
    Calls Try.prog 25 #[.slice A m c, .int .i64 num] w (Chosen w.heap.size ((l.filter fun f => decide (¬ f.num = num)).map fvK) w) := by
  have hmf := func_run (P := Try.prog)
  have hb1 := bw_a (Below.refl w.heap.size w) (.cells #[.int .i64 num] 3)
  have hc1 : (w.alloc (.cells #[.int .i64 num] 3)).cell? ⟨w.heap.size, 0, none⟩ = some (.int .i64 num) := (Blk.new w 3 #[.int .i64 num]).cell 0
  have hch := chosen_any l m A c (w.alloc (.cells #[.int .i64 num] 3)) 59 w.heap.size (fun f => decide (¬ f.num = num)) hm hm2 (hl.below hb1) (fun f hf => (hok f hf).below hb1) hx (fun args W => by kernel_rfl)
    (fun W f hW => wo1_any W w.heap.size num f ((hW.cell (p := ⟨w.heap.size, 0, none⟩) (by simp)).trans hc1))
  have HCH := hid hch
  have HB := hid hb1
  clear hch hl hok hx hb1 hc1
  go_enter Try.func25, Try.ntmps25
  go_wp2_with fail
  refine HCH.out.mono ?_
  rintro e w2 ⟨v, fs, rfl, ho, hfs, hown, hb⟩
  go_wp2_with fail
  go_ret
  exact ⟨v, fs, rfl, own_mono ho (by simp), hfs, fun f hf => own_mono (hown f hf) (by simp), bw_t HB.out hb⟩
end Go.Proofs.Ytfbmdeegcoocnaa
