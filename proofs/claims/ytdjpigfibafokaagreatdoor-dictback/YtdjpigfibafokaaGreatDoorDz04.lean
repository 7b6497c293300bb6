/- Arrays by value: laws for their whole loads, stores and literals beside ShaMem's, and arrays held against each other. -/
import Derived.Test.YtdjpigfibafokaaGreatDoorDz01
import Derived.Test.YtdjpigfibafokaaGreatDoorDz03
import Derived.Laws.ResultCell
import Derived.ChangeKeysEq
import Derived.Laws.StructEq
import Derived.BigQuiet
import Derived.Deep.QuietTactic
import Derived.Laws.Cover3
namespace Go.Proofs.YtdjpigfibafokaaGreatDoor
variable {c g:Nat}
variable {w:World}
variable {xs ys zs:Lq}
set_option maxHeartbeats 2000000
set_option maxRecDepth 20000
open Go.RowKit

theorem results_row_tmp {fn:Func} {p u:Tmp} {ty:TypeId} (h:fn.results= #[.cell p ty,.tmp u]) (tmps:Array Value) (w:World) (g:Nat) (cs:Array Value) (n:Nat) (el:TypeId) (x:Value) (hp:tmps.getD p undef=.pointer (some ⟨g,0,none⟩)) (hx:tmps.getD u undef=x) (hg:Blk w g ty cs)
    (hu:Tryz.prog.underlying ty=some (.array n el)) (hi:(Tryz.prog.info? ty).map (·.size)=some cs.size):
    (results fn tmps).run Tryz.prog w=.ok (.tuple #[.agg cs,x]) w:=by
  rw [results_cell_tmp h,hp,hx];simp [asAddr,run_loadVar_row w g ty ty cs (0,0) _ hg hu rfl hi]

theorem wpList_ldg {ops:Array Oper} {rest:List Oper} {op:Oper} {a:Act} {Q:Exit→Act→World→Prop} (w:World) (hgd:Region.wanted op (yielded ops a.tmps)=true) (x:Operand) (ty:TypeId) (ho:op.op=.load ty x)
    (g:Nat) (cs:Array Value) (hx:a.eval x=.pointer (some ⟨g,0,none⟩)) (h:Blk w g ty cs) (n:Nat) (e:TypeId) (hu:Tryz.prog.underlying ty=some (.array n e)) (hi:(Tryz.prog.info? ty).map (·.size)=some cs.size)
    (hk:wpList Tryz.prog ops Q rest (a.put op.dst (.agg cs)) w):wpList Tryz.prog ops Q (op::rest) a w:=by
  refine BigFrame.wpList_want hgd fun K hK=>?_
  unfold Oper.wp execOp;simp only [ho,hx,Instr.loadAt,Instr.sureAddr,Sem.run_bind,Sem.run_pure,Result.andThen_ok,h.load n e hu hi];exact hK _ _ hk

theorem cellsOf_byte:Tryz.prog.cellsOf 5=1:=by kernel_rfl

theorem items_eq {e:TypeId} {k:IntKind} (he:Tryz.prog.underlying e=some (.int k)) (hagg:∀w,(isAgg e).run Tryz.prog w=.ok false w) (d:Nat) (zs us:Lq) (xs ys:Array Value) (hx:∀i,i<zs.length→xs[i]?=some (.int k (zs.getD i 0))) (hy:∀i,i<us.length→ys[i]?=some (.int k (us.getD i 0))) (w:World):
    ∀is:List Nat,(∀i∈is,i<zs.length∧i<us.length)→(Op.eqItems (d+1) e 1 xs ys is).run Tryz.prog w=.ok (is.all fun i=>zs.getD i 0 == us.getD i 0) w
  | [],_=>by simp [Op.eqItems]
  | i::is,h=>by
    have h1:=hx i (h i (by simp)).1;have h2:=hy i (h i (by simp)).2;have hp:(part e xs (i * 1)).run Tryz.prog w=.ok (.int k (zs.getD i 0)) w:=by
      rw [Nat.mul_one];unfold part;rw [Sem.run_bind,hagg w];simp only [Result.andThen_ok,Bool.false_eq_true,if_false,h1,Sem.run_pure]
    have hq:(part e ys (i * 1)).run Tryz.prog w=.ok (.int k (us.getD i 0)) w:=by
      rw [Nat.mul_one];unfold part;rw [Sem.run_bind,hagg w];simp only [Result.andThen_ok,Bool.false_eq_true,if_false,h2,Sem.run_pure]
    have he2:=run_equalIn_int (P:=Tryz.prog) (w:=w) d e k k (zs.getD i 0) (us.getD i 0) he;have ih:=items_eq he hagg d zs us xs ys hx hy w is (fun j hj=>h j (by simp [hj]));simp only [Op.eqItems,Sem.run_bind,hp,hq,Result.andThen_ok,he2,List.all_cons]
    by_cases hb:zs.getD i 0 == us.getD i 0
    · rw [hb]
      simp only [Bool.not_true,Bool.false_eq_true,if_false,Bool.true_and];exact ih
    · rw [Bool.eq_false_iff.2 hb]
      simp

theorem all_same (n:Nat) (xs ys:Lq) (hx:xs.length=n) (hy:ys.length=n):((List.range n).all fun i=>xs.getD i 0 == ys.getD i 0)=decide (xs=ys):=by
  rw [Bool.eq_iff_iff,List.all_eq_true,decide_eq_true_iff];constructor
  · intro h
    apply List.ext_getElem (by omega);intro i h1 h2;have:=h i (by simpa [hx] using h1);simpa [List.getD,h1,h2] using this
  · rintro rfl i _
    simp

theorem arr_eq {t:TypeId} (ht:Tryz.prog.underlying t=some (.array 32 5)) (xs ys:Lq) (hx:xs.length=32) (hy:ys.length=32) (w:World):(Op.equalIn 10000 t (.agg (B xs)) (.agg (B ys))).run Tryz.prog w=.ok (decide (xs=ys)) w:=by
  obtain ⟨i,hi⟩:∃i,Tryz.prog.info? 5=some i:=⟨_,rfl⟩;rw [show (10000:Nat)=9998+1+1 from rfl,run_equalIn_array (P:=Tryz.prog) w (9998+1) (B xs) (B ys) ht hi,cellsOf_byte,
    items_eq u_byte Tryz.isAgg5 9998 xs ys (B xs) (B ys) (fun i hi=>B_get xs i hi) (fun i hi=>B_get ys i hi) w _ (fun i hi=>by rw [hx,hy];simpa using hi),all_same 32 xs ys hx hy]

theorem hash_eq (xs ys:Lq) (hx:xs.length=32) (hy:ys.length=32) (w:World):(Op.equalIn 10000 36 (.agg (B xs)) (.agg (B ys))).run Tryz.prog w=.ok (decide (xs=ys)) w:=arr_eq Tryz.underlying36 xs ys hx hy w

theorem path_eq (xs ys:Lq) (hx:xs.length=32) (hy:ys.length=32) (w:World):(Op.equalIn 10000 63 (.agg (B xs)) (.agg (B ys))).run Tryz.prog w=.ok (decide (xs=ys)) w:=arr_eq Tryz.underlying63 xs ys hx hy w

end Go.Proofs.YtdjpigfibafokaaGreatDoor

namespace Go.Proofs.YtdjpigfibafokaaGreatDoor
variable {c g:Nat}
variable {w:World}
variable {xs ys zs:Lq}
set_option maxHeartbeats 2000000
set_option maxRecDepth 20000
open Go.RowKit

theorem zero_path:∀w,(zeroValue 63).run Tryz.prog w=.ok (.agg (B (List.replicate 32 0))) w:=Tryz.zeroValue63
theorem size_path:(Tryz.prog.info? 63).map (·.size)=some 32:=by kernel_rfl
theorem u_path:Tryz.prog.underlying 63=some (.array 32 5):=Tryz.underlying63

theorem isBit_any (d:Int) (w:World):Kc 231 #[.int .i64 d] w fun e w'=>e=.returned (.bool (decide (0≤d∧d<256)))∧w'=w:=by
  by_cases h0:0≤d
  · by_cases h1:d<256
    · have e:decide (0≤d∧d<256)=true:=decide_eq_true ⟨h0,h1⟩
      rw [e];go_enter Tryz.func231,Tryz.ntmps231
      go_wp2
      go_ret;exact ⟨rfl,rfl⟩
    · have e:decide (0≤d∧d<256)=false:=decide_eq_false (fun h=>h1 h.2)
      rw [e];go_enter Tryz.func231,Tryz.ntmps231
      go_wp2
      go_ret;exact ⟨rfl,rfl⟩
  · have e:decide (0≤d∧d<256)=false:=decide_eq_false (fun h=>h0 h.1)
    rw [e];go_enter Tryz.func231,Tryz.ntmps231
    go_wp2
    go_ret;exact ⟨rfl,rfl⟩

theorem isDepth_any (d:Int) (w:World):Kc 232 #[.int .i64 d] w fun e w'=>e=.returned (.bool (decide (0≤d∧d≤256)))∧w'=w:=by
  by_cases h0:0≤d
  · by_cases h1:d≤256
    · have e:decide (0≤d∧d≤256)=true:=decide_eq_true ⟨h0,h1⟩
      rw [e];go_enter Tryz.func232,Tryz.ntmps232
      go_wp2
      go_ret;exact ⟨rfl,rfl⟩
    · have e:decide (0≤d∧d≤256)=false:=decide_eq_false (fun h=>h1 h.2)
      rw [e];go_enter Tryz.func232,Tryz.ntmps232
      go_wp2
      go_ret;exact ⟨rfl,rfl⟩
  · have e:decide (0≤d∧d≤256)=false:=decide_eq_false (fun h=>h0 h.1)
    rw [e];go_enter Tryz.func232,Tryz.ntmps232
    go_wp2
    go_ret;exact ⟨rfl,rfl⟩

theorem pbytes_any (xs:Lq) (w:World):Kc 27 #[.agg (B xs)] w fun e w'=>∃g,e=.returned (.slice (some ⟨g,0,none⟩) 32 32)∧w.heap.size≤g∧Blk w' g 63 (B xs)∧Kb w w':=by
  go_enter Tryz.func27,Tryz.ntmps27
  go_wp2_with (refine wpList_bx _ rfl _ _ rfl _ rfl ?_;intro w1 g1 hg1 hl1 B1 b1)
  go_ret;exact ⟨g1,rfl,hg1,B1,b1⟩

theorem and_one (y:Int) (hy:0≤y∧y≤255):bits .and .u8 y 1=y % 2:=by
  obtain ⟨n,hn,rfl⟩:=nat_of y hy;have:=u8_and_nat n 1 hn (by omega);rw [Nat.and_one_is_mod] at this;rw [show (1:Int)=((1:Nat):Int) from rfl,this];omega

theorem shr_byte (y:Int) (hy:0≤y∧y≤255) (k:Nat):0≤y / 2 ^ k∧y / 2 ^ k≤255:=
  ⟨Int.ediv_nonneg hy.1 (Int.pow_nonneg (by omega)),Int.le_trans (Int.ediv_le_self _ hy.1) hy.2⟩

theorem bit_word (xs:Lq) (hx:Key xs) (d:Nat):wrap64 (bits .and .u8 (xs[d / 8]?.getD 0 / 2 ^ (7-d % 8)) 1)=kb xs d:=by
  have h:=shr_byte _ (hx.byte (d / 8)) (7-d % 8);have e:xs[d / 8]?.getD 0=xs.getD (d / 8) 0:=by simp [List.getD]
  rw [e,and_one _ h,Go.IntWalk.wrap64_in _ (by omega)];rfl

theorem bit_in (xs:Lq) (d:Nat) (w:World) (hx:Key xs) (hd:d<256):Kc 180 #[.agg (B xs),.int .i64 d] w fun e w'=>e=.returned (.int .i64 (kb xs d))∧Kb w w':=by
  have HI:Hid (∀w,Kc 231 #[.int .i64 (d:Int)] w fun e w'=>e=.returned (.bool true)∧w'=w):=by
    intro w;have:=isBit_any d w;rw [decide_eq_true (by omega)] at this;exact this
  have HW:=hidden (bit_word xs hx d);have h2:((d / 8:Nat):Int)<32:=by omega
  go_enter Tryz.func180,Tryz.ntmps180
  go_wp2_with (first | (go_at_call 231;refine (HI.out _).mono ?_;rintro e w2 ⟨rfl,rfl⟩) | (refine wpList_bx _ rfl _ _ rfl _ rfl ?_;intro w1 g1 hg1 hl1 B1 b1;have c1:=B1.bcell (d / 8) (by rw [hx.1];omega)))
  go_ret;exact ⟨by rw [HW.out];rfl,b1⟩

theorem bit_out (v:Value) (cs:Array Value) (hv:v=.agg cs) (d:Int) (w:World) (hd: ¬(0≤d∧d<256)):Kc 180 #[v,.int .i64 d] w fun e w'=>e=.returned (.int .i64 (-1))∧Kb w w':=by
  subst hv;have HI:Hid (∀w,Kc 231 #[.int .i64 d] w fun e w'=>e=.returned (.bool false)∧w'=w):=by
    intro w;have:=isBit_any d w;rw [decide_eq_false hd] at this;exact this
  clear hd;go_enter Tryz.func180,Tryz.ntmps180
  go_wp2_with (first | (go_at_call 231;refine (HI.out _).mono ?_;rintro e w2 ⟨rfl,rfl⟩) | (refine wpList_bx _ rfl _ _ rfl _ rfl ?_;intro w1 g1 hg1 hl1 B1 b1))
  go_ret;exact ⟨rfl,b1⟩

theorem Blk.key_reads (h:Blk w g 63 (B xs)) (hx:Key xs):Reads w (.slice (some ⟨g,0,none⟩) 32 32) xs:=by
  have e:(.slice (some ⟨g,0,none⟩) 32 32:Value)=.slice (some ⟨g,0,none⟩) xs.length 32:=by rw [hx.1]
  rw [e];refine ⟨_,_,rfl,by rw [hx.1];omega,fun h=>by simp at h,hx.2,fun _=>⟨g,0,rfl,fun i hi=>?_⟩⟩;rw [Nat.zero_add];exact h.bcell i hi

theorem pcompare_any (xs ys:Lq) (w:World) (hx:Key xs) (hy:Key ys):Kc 212 #[.agg (B xs),.agg (B ys)] w fun e w'=>e=.returned (.int .i64 (cmp xs ys))∧Kb w w':=by
  go_enter Tryz.func212,Tryz.ntmps212
  go_wp2_with (first | (have hz:=hl1;clear hz;refine wpList_bx _ rfl _ _ rfl _ rfl ?_;intro w2 g2 hg2 hl2 B2 b2) | (refine wpList_bx _ rfl _ _ rfl _ rfl ?_;intro w1 g1 hg1 hl1 B1 b1))
  have c2:=grow_trans b1 b2;have HC:Hid (∀w',Kb w2 w'→Kc 259 #[.slice (some ⟨g1,0,none⟩) 32 32,.slice (some ⟨g2,0,none⟩) 32 32] w' fun e w''=>e=.returned (.int .i64 (cmp xs ys))∧w''=w'):=
    fun w' hw'=>compare_any _ _ xs ys w' (((B1.grow b2).grow hw').key_reads hx) ((B2.grow hw').key_reads hy)
  clear hx hy
  go_quiet ((go_at_call 259;exact Calls.quiet_of_same (HC.out _ (below_drewN (Below.refl _ _) _))))
  go_wp2
  go_ret;exact ⟨rfl,below_drewN c2 _⟩

def KeyPost (p:Lq→Prop) (n:Int) (w:World) (e:Ending) (w':World):Prop:=∃ys,p ys∧e=.returned (.tuple #[.agg (B ys),.int .i64 n])∧Kb w w'

theorem of_in (v:Value) (xs:Lq) (w:World) (h:Reads w v xs) (hl:xs.length=32):Kc 88 #[v] w (KeyPost (fun ys=>ys=xs) 0 w):=by
  have HB:Hid (Bytes xs):=by obtain ⟨_,_,_,_,_,hb,_⟩:=h;exact hb
  have HR:=hidden h;obtain ⟨a,c,rfl,h1,_,_,h4⟩:=h;obtain ⟨b,off,rfl,hc⟩:=h4 (by omega);have hcell:∀i,i<32→w.cell? ⟨b,off+i,none⟩=some (.int .u8 (xs.getD i 0)):=fun i hi=>hc i (by omega)
  have hra:w.rangeAt b off (B xs).toList:=by
    intro i v hv;rw [B_toList] at hv;have hi:i<xs.length:=by
      have:=(List.getElem?_eq_some_iff.1 hv).1;simpa using this
    rw [hc i hi];simpa [List.getD,hi] using hv
  have HRA:Hid (∀w',Kb w w'→w'.rangeAt b off (B xs).toList):=fun w' hw' i v hv=>(hw'.cell (p:=⟨b,off+i,none⟩) (block_lt_of_cell (hra i v hv))).trans (hra i v hv)
  have hiX:(Tryz.prog.info? 63).map (·.size)=some (B xs).toList.length:=by rw [B_toList,List.length_map,hl];exact size_path
  have hsX:(B xs).size=32:=by rw [B_size];exact hl
  have hiX2:(Tryz.prog.info? 63).map (·.size)=some (B xs).size:=by rw [hsX];exact size_path
  have hat:∀w,(Instr.arrayAt 63 (.slice (some ⟨b,off,none⟩) 32 c)).run Tryz.prog w=.ok (.pointer (some ⟨b,off,none⟩)) w:=fun w=>run_arrayAt w 63 _ 32 _ 32 c u_path (by omega)
  rw [hl] at h1 ⊢;clear h4 hc hra;go_enter Tryz.func88,Tryz.ntmps88
  go_wp2_with (first | (refine wpList_al _ rfl _ rfl _ zero_path ?_;intro w1 g1 hg1 hl1 B1 b1) | (refine wpList_load_mid rfl _ _ rfl b off rfl (B xs).toList _ (HRA.out _ b1) u_path rfl hiX ?_;rw [Array.toArray_toList]) | (refine wpList_sto _ rfl _ _ _ rfl g1 _ (B xs) rfl rfl B1 hiX2 (by rw [hsX,B_size];simp) (B_one _) ?_;intro w2 B2 g2))
  exact bodyPost_ret (v:=.tuple #[.agg (B xs),.int .i64 0]) (results_row_tmp rfl _ _ g1 _ _ _ _ rfl rfl B2 u_path hiX2) rfl ⟨xs,rfl,rfl,below_row b1 g2 hg1⟩

theorem of_out (v:Value) (xs:Lq) (w:World) (h:Reads w v xs) (hl:xs.length≠32):Kc 88 #[v] w (KeyPost (fun ys=>ys=List.replicate 32 0) 3 w):=by
  obtain ⟨a,c,rfl,_,_,_,_⟩:=h;have h2:decide ((xs.length:Int)=32)=false:=decide_eq_false (by omega);have h3: ¬(xs.length:Int)=32:=by omega
  go_enter Tryz.func88,Tryz.ntmps88
  go_wp2_with (first | (refine wpList_al _ rfl _ rfl _ zero_path ?_;intro w1 g1 hg1 hl1 B1 b1) | (refine wpList_bld _ rfl _ _ rfl (B (List.replicate 32 0)) (by kernel_rfl) ?_) | (refine wpList_sto _ rfl _ _ _ rfl g1 _ (B (List.replicate 32 0)) rfl rfl B1 (by kernel_rfl) rfl (B_one _) ?_;intro w2 B2 g2))
  exact bodyPost_ret (v:=.tuple #[.agg (B (List.replicate 32 0)),.int .i64 3]) (results_row_tmp rfl _ _ g1 _ _ _ _ rfl rfl B2 u_path (by kernel_rfl)) rfl ⟨_,rfl,rfl,below_row b1 g2 hg1⟩

end Go.Proofs.YtdjpigfibafokaaGreatDoor

namespace Go.Proofs.YtdjpigfibafokaaGreatDoor
variable {c g:Nat}
variable {w:World}
variable {xs ys zs:Lq}
set_option maxHeartbeats 2000000
set_option maxRecDepth 20000
open Go.RowKit

def len8 (n:Nat):Nat:=if n=0 then 0 else Nat.log2 n+1

theorem wpList_ix {ops:Array Oper} {rest:List Oper} {op:Oper} {a:Act} {Q:Exit→Act→World→Prop} (w:World) (hgd:op.guard=none) (x y:Operand) (ty:TypeId) (ho:op.op=.index ty x y) (hu:Tryz.prog.underlying ty=some .string)
    (s:ByteArray) (n:Nat) (hn:n<256) (hx:a.eval x=.string s) (hy:a.eval y=.int .u8 n) (h:(List.range 256).all (fun n=>(s[n]?).map (·.toNat) == some (len8 n))=true) (hk:wpList Tryz.prog ops Q rest (a.put op.dst (.int .u8 (len8 n))) w):wpList Tryz.prog ops Q (op::rest) a w:=by
  refine wpList_plain hgd fun K hK=>?_
  have h':(s[n]?).map (·.toNat)=some (len8 n):=by
    have:=List.all_eq_true.1 h n (by simpa using hn);simpa using this
  cases hb:s[n]? with
  | none=>rw [hb] at h';cases h'
  | some c=>
    rw [hb] at h';injection h' with h';unfold Oper.wp execOp;simp only [ho,hx,hy,Instr.index,asIntOf,Sem.run_bind,Sem.run_pure,Result.andThen_ok,run_underlying hu,Int.natCast_nonneg,if_true,Int.toNat_natCast,hb,h'];exact hK _ _ hk

set_option maxRecDepth 100000 in
theorem len8_any (n:Nat) (w:World) (h1:n<256):Kc 305 #[.int .u8 n] w fun e w'=>e=.returned (.int .i64 (len8 n))∧w'=w:=by
  have h2:len8 n≤8:=(show ∀n,n<256→len8 n≤8 from by decide+kernel) n h1;have HN:=hidden h1;go_enter Tryz.func305,Tryz.ntmps305
  go_wp2_with (refine wpList_ix _ rfl _ _ _ rfl Tryz.underlying9 _ n HN.out rfl rfl (by kernel_rfl) ?_)
  go_ret;exact ⟨rfl,rfl⟩

theorem lead_any (n:Nat) (w:World) (h1:n<256):Kc 271 #[.int .u8 n] w fun e w'=>e=.returned (.int .i64 ((8-len8 n:Nat):Int))∧w'=w:=by
  have h2:len8 n≤8:=(show ∀n,n<256→len8 n≤8 from by decide+kernel) n h1;have HN:=hidden (len8_any n w h1);obtain ⟨l,hl⟩:∃l,l=8-len8 n:=⟨_,rfl⟩;rw [← hl];have h3:(8:Int)-(len8 n:Int)=(l:Int):=by omega
  have h4:l≤8:=by omega
  have h5:wrap64 (l:Int)=(l:Int):=Go.IntWalk.wrap64_in _ (by omega);clear hl;go_enter Tryz.func271,Tryz.ntmps271
  go_wp2_with (go_at_call 305;refine HN.out.mono ?_;rintro e w' ⟨rfl,rfl⟩)
  go_ret;exact ⟨by rw [← h3];rfl,rfl⟩

theorem xor_lead (x y:Int) (hx:0≤x∧x≤255) (hy:0≤y∧y≤255) (h:x≠y):∃m:Nat,m<256∧bits .xor .u8 x y=m∧8-len8 m<8∧(∀j,j<8-len8 m→bt x j=bt y j)∧bt x (8-len8 m)≠bt y (8-len8 m):=by
  obtain ⟨m,hm,e⟩:=nat_of _ (bits_byte .xor x y);have hb:=bt_xor x y hx hy;rw [e] at hb;have h1:∀(q:Nat) j,bt (q:Int) j=((q / 2 ^ (7-j) % 2:Nat):Int):=by intro q j;unfold bt;norm_cast
  have h0:m≠0:=by
    rintro rfl;refine h (byte_ext x y hx hy fun k _=>?_);have:=hb k;rw [show ((0:Nat):Int)=0 from rfl,bt_zero] at this
    by_cases q:bt x k=bt y k
    · exact q
    · rw [if_neg q] at this;omega
  obtain ⟨a1,a2,a3⟩:=(show ∀m,m<256→m≠0→8-len8 m<8∧(∀j,j<8-len8 m→m / 2 ^ (7-j) % 2=0)∧m / 2 ^ (7-(8-len8 m)) % 2=1 from by decide+kernel) m hm h0;refine ⟨m,hm,e,a1,fun j hj=>?_,fun q=>?_⟩
  · have:=hb j
    rw [h1,a2 j hj] at this
    by_cases q:bt x j=bt y j
    · exact q
    · rw [if_neg q] at this;omega
  · have:=hb (8-len8 m)
    rw [h1,a3,if_pos q] at this;omega

theorem common_of (i l:Nat) (hi:i<32) (hl:l<8) (he:∀j,j<i→xs.getD j 0=ys.getD j 0) (h1:∀j,j<l→bt (xs.getD i 0) j=bt (ys.getD i 0) j) (h2:bt (xs.getD i 0) l≠bt (ys.getD i 0) l):IsCommon xs ys (8 * i+l):=by
  refine ⟨by omega,fun j hj=>?_,fun _=>?_⟩
  · unfold kb
    rcases Nat.lt_or_ge (j / 8) i with e | e
    · rw [he _ e]
    · have e2:j / 8=i:=by omega
      rw [e2];exact h1 _ (by omega)
  · unfold kb
    rw [show (8 * i+l) / 8=i by omega,show (8 * i+l) % 8=l by omega];exact h2

set_option maxRecDepth 10000 in
theorem common_any (xs ys:Lq) (w:World) (hx:Key xs) (hy:Key ys):Kc 233 #[.agg (B xs),.agg (B ys)] w fun e w'=>∃c:Nat,IsCommon xs ys c∧e=.returned (.int .i64 c)∧Kb w w':=by
  have HX:=hidden hx;have HY:=hidden hy;have hiX:(Tryz.prog.info? 63).map (·.size)=some (B xs).size:=by rw [B_size,hx.1];exact size_path
  have hiY:(Tryz.prog.info? 63).map (·.size)=some (B ys).size:=by rw [B_size,hy.1];exact size_path
  have HE:=fun w=>path_eq xs ys hx.1 hy.1 w
  clear hx hy
  by_cases hq:xs=ys
  · have hd:decide (xs=ys)=true:=decide_eq_true hq
    rw [hd] at HE;have HQ:=hidden hq;clear hq hd;go_enter Tryz.func233,Tryz.ntmps233
    go_wp2_with (first | (have hz:=hl1;clear hz;refine wpList_bx _ rfl _ _ rfl _ rfl ?_;intro w2 g2 hg2 hl2 B2 b2;have B1':=B1.grow b2) | (refine wpList_bx _ rfl _ _ rfl _ rfl ?_;intro w1 g1 hg1 hl1 B1 b1) | (refine wpList_ld _ rfl _ _ rfl g1 _ rfl B1' _ _ u_path hiX ?_) | (refine wpList_ld _ rfl _ _ rfl g2 _ rfl B2 _ _ u_path hiY ?_))
    go_ret;exact ⟨256,by rw [HQ.out];exact IsCommon.self _,rfl,grow_trans b1 b2⟩
  · have hd:decide (xs=ys)=false:=decide_eq_false hq
    rw [hd] at HE;have HQ:=hidden hq;clear hq hd;go_enter Tryz.func233,Tryz.ntmps233
    go_wp2_with (first | (have hz:=hl1;clear hz;refine wpList_bx _ rfl _ _ rfl _ rfl ?_;intro w2 g2 hg2 hl2 B2 b2;have B1':=B1.grow b2) | (refine wpList_bx _ rfl _ _ rfl _ rfl ?_;intro w1 g1 hg1 hl1 B1 b1) | (refine wpList_ld _ rfl _ _ rfl g1 _ rfl B1' _ _ u_path hiX ?_) | (refine wpList_ld _ rfl _ _ rfl g2 _ rfl B2 _ _ u_path hiY ?_))
    have c2:=grow_trans b1 b2;have C1:Hid (∀w',Kb w2 w'→∀i,i<32→w'.cell? ⟨g1,i,none⟩=some (.int .u8 (xs.getD i 0))):=fun w' hw' i hi=>(B1'.grow hw').bcell i (by rw [HX.out.1];exact hi)
    have C2:Hid (∀w',Kb w2 w'→∀i,i<32→w'.cell? ⟨g2,i,none⟩=some (.int .u8 (ys.getD i 0))):=fun w' hw' i hi=>(B2.grow hw').bcell i (by rw [HY.out.1];exact hi)
    clear B1 B1' B2 b1 b2 hg1 hg2 hl1 hl2 hiX hiY HE
    go_loopw [5] (fun i wr=>∃k:Nat,k<32∧i=.int .i64 k∧Hid (∀j,j<k→xs.getD j 0=ys.getD j 0)∧Kb w2 wr) (fun i _=>32-(intOf i).toNat)
    case atStart=>exact ⟨0,by omega,rfl,fun j hj=>by omega,Below.refl _ _⟩
    case round=>
      obtain ⟨k,hk,rfl,hj,hb⟩:=hrel;have q1:=C1.out _ hb k hk;have q2:=C2.out _ hb k hk;have hk':(k:Int)<32:=by omega
      by_cases hxy:xs.getD k 0=ys.getD k 0
      · have HJ:Hid (∀j,j<k+1→xs.getD j 0=ys.getD j 0):=by
          intro j h;rcases Nat.lt_or_ge j k with e | e
          · exact hj.out j e
          · have:j=k:=by omega
            subst this;exact hxy
        have hk2:k+1<32:=by
          rcases Nat.lt_or_ge (k+1) 32 with h | h
          · exact h
          · refine absurd ?_ HQ.out
            have h1:=HX.out.1;have h2:=HY.out.1;apply List.ext_getElem (by omega);intro j a1 a2;have:=HJ.out j (by omega);simpa [List.getD,a1,a2] using this
        rw [hxy] at q1;clear hj hxy;generalize ys.getD k 0=z at *
        go_wp2_with fail
        go_quiet (fail)
        go_wp2
        exact ⟨⟨k+1,hk2,by go_num,HJ,below_drewN hb _⟩,by simp [intOf];omega⟩
      · obtain ⟨m,hm,e1,e2,e3,e4⟩:=xor_lead _ _ (HX.out.byte k) (HY.out.byte k) hxy
        have HC:=hidden (common_of k (8-len8 m) hk e2 hj.out e3 e4);have HL:Hid (∀w',Kc 271 #[.int .u8 m] w' fun e w''=>e=.returned (.int .i64 ((8-len8 m:Nat):Int))∧w''=w'):=fun w'=>lead_any m w' hm
        clear e3 e4 hj;generalize 8-len8 m=l at *;generalize xs.getD k 0=x at *;generalize ys.getD k 0=y at *
        go_wp2_with fail
        go_quiet (fail)
        go_wp2
        have hb2:=below_drewN hb nq;have q1':(wr.drewN nq).cell? ⟨g1,k,none⟩=some (.int .u8 x):=q1;have q2':(wr.drewN nq).cell? ⟨g2,k,none⟩=some (.int .u8 y):=q2;generalize wr.drewN nq=wz at *;clear q1 q2
        go_quiet ((go_at_call 271;exact Calls.quiet_of_same (HL.out _)))
        go_wp2
        go_ret;exact ⟨8 * k+l,HC.out,by go_num,below_drewN (grow_trans c2 hb2) _⟩
end Go.Proofs.YtdjpigfibafokaaGreatDoor

namespace Go.Proofs.YtdjpigfibafokaaGreatDoor
variable {c g:Nat}
variable {w:World}
variable {xs ys zs:Lq}
set_option maxHeartbeats 2000000
set_option maxRecDepth 20000
open Go.RowKit

def Und (xs ys:Lq) (d:Int):Prop:=0≤d∧d≤256∧∀j:Nat,(j:Int)<d→kb xs j=kb ys j

theorem und_common (h:IsCommon xs ys c) (d:Int) (h0:0≤d) (h1:d≤256):d≤(c:Int)↔Und xs ys d:=by
  constructor
  · intro hd
    exact ⟨h0,h1,fun j hj=>h.2.1 j (by omega)⟩
  · intro hd
    rcases Int.lt_or_le (c:Int) d with e | e
    · exact absurd (hd.2.2 c e) (h.2.2 (by omega))
    · exact e

theorem under_any (xs ys:Lq) (d:Int) (w:World) (hx:Key xs) (hy:Key ys):Kc 181 #[.agg (B xs),.agg (B ys),.int .i64 d] w fun e w'=>∃b:Bool,(b=true↔Und xs ys d)∧e=.returned (.bool b)∧Kb w w':=by
  have HX:=hidden hx;have HY:=hidden hy;have hiX:(Tryz.prog.info? 63).map (·.size)=some (B xs).size:=by rw [B_size,hx.1];exact size_path
  have hiY:(Tryz.prog.info? 63).map (·.size)=some (B ys).size:=by rw [B_size,hy.1];exact size_path
  have HI:=isDepth_any d;clear hx hy
  by_cases hd:0≤d∧d≤256
  · rw [decide_eq_true hd] at HI
    have HI':=hidden HI;have HD:=hidden hd;clear HI hd;go_enter Tryz.func181,Tryz.ntmps181
    go_wp2_with (first | (have hz:=hl1;clear hz;refine wpList_bx _ rfl _ _ rfl _ rfl ?_;intro w2 g2 hg2 hl2 B2 b2;have B1':=B1.grow b2) | (refine wpList_bx _ rfl _ _ rfl _ rfl ?_;intro w1 g1 hg1 hl1 B1 b1) | (go_at_call 232;refine (HI'.out _).mono ?_;rintro e w3 ⟨rfl,rfl⟩) | (refine wpList_ldg _ rfl _ _ rfl g1 _ rfl B1' _ _ u_path hiX ?_) | (refine wpList_ldg _ rfl _ _ rfl g2 _ rfl B2 _ _ u_path hiY ?_) | (go_at_call 233;refine (common_any xs ys _ HX.out HY.out).mono ?_;rintro e w4 ⟨c,hc,rfl,b4⟩;have HC:=hidden hc;clear hc))
    go_ret;exact ⟨_,decide_eq_true_iff.trans (und_common HC.out d HD.out.1 HD.out.2),rfl,grow_trans (grow_trans b1 b2) b4⟩
  · rw [decide_eq_false hd] at HI
    have HI':=hidden HI;have HD:=hidden hd;clear HI hd;go_enter Tryz.func181,Tryz.ntmps181
    go_wp2_with (first | (have hz:=hl1;clear hz;refine wpList_bx _ rfl _ _ rfl _ rfl ?_;intro w2 g2 hg2 hl2 B2 b2;have B1':=B1.grow b2) | (refine wpList_bx _ rfl _ _ rfl _ rfl ?_;intro w1 g1 hg1 hl1 B1 b1) | (go_at_call 232;refine (HI'.out _).mono ?_;rintro e w3 ⟨rfl,rfl⟩))
    go_ret;exact ⟨false,Iff.intro (fun h=>absurd h (by decide)) (fun h=>absurd ⟨h.1,h.2.1⟩ HD.out),rfl,grow_trans b1 b2⟩

theorem Blk.bset {t:TypeId} (h:Blk w g t (B zs)) (i:Nat) (z:Int):Blk (w.setCell ⟨g,i,none⟩ (.int .u8 z)) g t (B (zs.set i z)):=by
  have:=h.set i (.int .u8 z);rw [B_set] at this;exact this

theorem key_size (h:Key xs):(Tryz.prog.info? 63).map (·.size)=some (B xs).size:=by rw [B_size,h.1];exact size_path

end Go.Proofs.YtdjpigfibafokaaGreatDoor
