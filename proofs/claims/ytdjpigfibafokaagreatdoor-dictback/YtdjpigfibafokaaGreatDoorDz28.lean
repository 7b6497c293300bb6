/- slices.insertionSortCmpFunc at writes, and the function that they are sorted by, as contracts. -/
import Derived.Test.YtdjpigfibafokaaGreatDoorDz01
import Derived.Test.YtdjpigfibafokaaGreatDoorDz27
import Derived.Test.YtdjpigfibafokaaGreatDoorDz04
import Derived.Test.YtdjpigfibafokaaGreatDoorDz11
import Derived.Test.YtdjpigfibafokaaGreatDoorDz06
namespace Go.Proofs.YtdjpigfibafokaaGreatDoor
variable {c g i j n:Nat}
variable {v v':Value}
variable {w w' w0:World}
set_option maxRecDepth 20000
open Go.RowKit

theorem sz_path0:(Tryz.prog.info? 63).map (·.size)=some 32:=by kernel_rfl

theorem wpList_ldk0 {ops:Array Oper} {rest:List Oper} {op:Oper} {a:Act} {Q:Exit→Act→World→Prop} (w:World) (hgd:op.guard=none) (x:Operand) (ho:op.op=.load 63 x)
    (g o:Nat) (k:Lq) (hx:a.eval x=.pointer (some ⟨g,o,none⟩)) (h:w.rangeAt g o (B k).toList) (hl:k.length=32)
    (hk:wpList Tryz.prog ops Q rest (a.put op.dst (.agg (B k))) w):wpList Tryz.prog ops Q (op::rest) a w:=
  wpList_load_mid hgd 63 x ho g o hx (B k).toList _ h Tryz.underlying63 rfl (by rw [B_toList,List.length_map,hl];exact sz_path0) (by simpa using hk)

theorem Blk.rngW {t:TypeId} {x:Wt} (h:Blk w g t (encW x).toArray):w.rangeAt g 0 (encW x):=fun j v hv=>by
  rw [Nat.zero_add,h.cell];simpa using hv

theorem byKey_any (X Y:Wt) (w:World) (hX:WtOk X) (hY:WtOk Y):Kc 249 #[.agg (encW X).toArray,.agg (encW Y).toArray] w fun e w'=>e=.returned (.int .i64 (cmp X.k Y.k))∧Kb w w':=by
  have HC:Hid (∀w',Kc 212 #[.agg (B X.k),.agg (B Y.k)] w' fun e w''=>e=.returned (.int .i64 (cmp X.k Y.k))∧Below w'.heap.size w' w''):=fun w'=>pcompare_any X.k Y.k w' hX.hk hY.hk
  have L1:Hid (X.k.length=32):=hX.hk.1;have L2:Hid (Y.k.length=32):=hY.hk.1;obtain ⟨r,hr⟩:∃r,r=cmp X.k Y.k:=⟨_,rfl⟩;rw [← hr] at HC ⊢;clear hX hY hr;go_enter Tryz.func249,Tryz.ntmps249
  go_wp2_with (first
    |((with_reducible refine at_bxd 2 ?_);refine wpList_bx _ rfl _ _ rfl _ rfl ?_;intro w1 g1 hg1 hl1 B1 b1)
    |((with_reducible refine at_bxd 3 ?_);refine wpList_bx _ rfl _ _ rfl _ rfl ?_;intro w2 g2 hg2 hl2 B2 b2;have B1':=B1.grow b2)
    |((with_reducible refine at_ldd 6 5 ?_);refine wpList_ldk0 _ rfl _ rfl g1 0 _ rfl (encW_key B1'.rngW) L1.out ?_)
    |((with_reducible refine at_ldd 8 7 ?_);refine wpList_ldk0 _ rfl _ rfl g2 0 _ rfl (encW_key B2.rngW) L2.out ?_)
    |(go_at_call 212;refine (HC.out _).mono ?_;rintro e w3 ⟨rfl,b3⟩))
  go_ret;exact ⟨rfl,grow_trans (grow_trans b1 b2) b3⟩

structure Sw (w0:World) (g n c:Nat) (w:World) (xs:List Wt):Prop where
  len:xs.length=n
  own:Lst w 198 34 (.slice (some ⟨g,0,none⟩) n c) n (flatE encW xs)
  mod:Mod [g] w0 w
  ok:∀x∈xs,WtOk x

theorem Sw.grow {xs:List Wt} (h:Sw w0 g n c w xs) (hb:Kb w w'):Sw w0 g n c w' xs:=⟨h.len,lst_grow h.own hb,h.mod.trans' (Mod.of_below hb _),h.ok⟩
theorem Sw.kys {xs:List Wt} (h:Sw w0 g n c w xs):Kys xs:=fun x hx=>(h.ok x hx).hk
theorem Sw.at {xs:List Wt} (h:Sw w0 g n c w xs) (i:Nat) (hi:i<n):w.rangeAt g (i * 34) (encW xs[i]!)∧w.there g (i * 34) 34∧WtOk xs[i]!∧ky xs i=xs[i]!.k:=by
  have hi':i<xs.length:=by rw [h.len];exact hi
  have h1:=lstE_range h.own h.len (fun x hx=>(h.ok x hx).len) i hi';rw [getElem!_pos xs i hi'];refine ⟨h1.1,h1.2,h.ok _ (List.getElem_mem hi'),?_⟩;unfold ky;rw [getElem!_pos xs i hi']
theorem Sw.swap {xs:List Wt} (h:Sw w0 g n c w xs) (i j:Nat) (hi:i<n) (hj:j<n):Sw w0 g n c ((w.setCells g (i * 34) (encW xs[j]!)).setCells g (j * 34) (encW xs[i]!)) (swp xs i j):=by
  obtain ⟨rfl,h2,h3,h4⟩:=h;rw [getElem!_pos xs i hi,getElem!_pos xs j hj];have h5:=lsW_swp h2 h4 hi hj;rw [swp_len] at h5;refine ⟨swp_len _ _ _,h5,h3.trans' ((mod_setCells g (by simp) _ _ _).trans' (mod_setCells g (by simp) _ _ _)),fun x hx=>h4 x ?_⟩;obtain ⟨q,hq,rfl⟩:=List.mem_iff_getElem.1 hx;have h6:=swp_get xs i j q hi hj;rw [List.getElem?_eq_getElem hq] at h6;exact List.mem_of_getElem? h6.symm

theorem step_stw {ops:Array Oper} {o:Oper} {a:Act} {K:Act→World→Prop} {Q:Exit→Act→World→Prop} {E:Prop} (w:World) (hgd:o.guard=none) (ty:TypeId) (x y:Operand) (ho:o.op=.store ty x y)
    (b off:Nat) (cells:Array Value) (hx:a.eval x=.pointer (some ⟨b,off,none⟩)) (hy:a.eval y=.agg cells) (ht:w.there b off cells.size) (hi:(Tryz.prog.info? ty).map (·.size)=some cells.size) (h1:cells.all (·.oneCell')=true)
    (h:K (a.put o.dst undef) (w.setCells b off cells.toList)):if Region.wanted o (yielded ops a.tmps)=true then Oper.wp Tryz.prog o a w K Q else E:=by
  have hw:Region.wanted o (yielded ops a.tmps)=true:=by simp [Region.wanted,hgd]
  rw [if_pos hw];exact wp_store_mid ty x y ho b off cells hx hy ht hi h1 h

structure TwoW (w0:World) (g n c:Nat) (w:World) (xs:List Wt) (i j:Nat) (X Y:Wt):Prop where
  sw:Sw w0 g n c w xs
  rg:w.rangeAt g (i * 34) (encW X)∧w.rangeAt g (j * 34) (encW Y)
  sx:(Tryz.prog.info? 198).map (·.size)=some (encW X).length
  sy:(Tryz.prog.info? 198).map (·.size)=some (encW Y).length
  ax:(Tryz.prog.info? 198).map (·.size)=some (encW X).toArray.size
  ay:(Tryz.prog.info? 198).map (·.size)=some (encW Y).toArray.size
  ox:(encW X).toArray.all (·.oneCell')=true
  oy:(encW Y).toArray.all (·.oneCell')=true
  tx:w.there g (i * 34) (encW Y).toArray.size
  ty:(w.setCells g (i * 34) (encW Y)).there g (j * 34) (encW X).toArray.size
  swap:Sw w0 g n c ((w.setCells g (i * 34) (encW Y)).setCells g (j * 34) (encW X)) (swp xs i j)
  call:∀w',Kc 249 #[.agg (encW X).toArray,.agg (encW Y).toArray] w' fun e w''=>e=.returned (.int .i64 (cmp X.k Y.k))∧Below w'.heap.size w' w''
  lt:cmp X.k Y.k<0↔Ahead (ky xs i) (ky xs j)
  eq:cmp X.k Y.k=0↔ky xs i=ky xs j

theorem Sw.two {xs:List Wt} (h:Sw w0 g n c w xs) (i j:Nat) (hi:i<n) (hj:j<n):TwoW w0 g n c w xs i j xs[i]! xs[j]!:=by
  obtain ⟨x1,x2,x3,x4⟩:=h.at i hi;obtain ⟨y1,y2,y3,y4⟩:=h.at j hj;have sx:(Tryz.prog.info? 198).map (·.size)=some (encW xs[i]!).length:=by rw [x3.len];exact size_write
  have sy:(Tryz.prog.info? 198).map (·.size)=some (encW xs[j]!).length:=by rw [y3.len];exact size_write
  refine ⟨h,⟨x1,y1⟩,sx,sy,by rw [List.size_toArray];exact sx,by rw [List.size_toArray];exact sy,x3.all,y3.all,by rw [List.size_toArray,y3.len];exact x2,by rw [List.size_toArray,x3.len];exact there_sets y2 _ _ _,h.swap i j hi hj,fun w'=>byKey_any _ _ w' x3 y3,?_,?_⟩
  · rw [x4,y4]
    exact al_cmp x3.hk y3.hk
  · rw [x4,y4]
    rcases cmp_key x3.hk y3.hk with ⟨q,e⟩ | ⟨q,e⟩ | ⟨q,e⟩
    · exact ⟨fun _=>e,fun _=>q⟩
    · exact ⟨fun h=>by omega,fun h=>absurd e (by rw [h];exact al_irr _)⟩
    · exact ⟨fun h=>by omega,fun h=>absurd e (by rw [h];exact al_irr _)⟩
theorem Sw.twos {xs:List Wt} (h:Sw w0 g n c w xs) (i j:Nat) (hi:i<n) (hj:j<n):∃X Y,(∀w',Kb w w'→TwoW w0 g n c w' xs i j X Y):=⟨_,_,fun _ hb=>(h.grow hb).two i j hi hj⟩

set_option maxRecDepth 100000 in
set_option maxHeartbeats 8000000 in
theorem ins_any (w0:World) (g n c a b:Nat) (xs:List Wt) (w:World) (h:Sw w0 g n c w xs) (hab:a≤b) (hb:b≤n) (hn:n≤65536):
    Kc 313 #[.slice (some ⟨g,0,none⟩) n c,.int .i64 (a:Int),.int .i64 (b:Int),.func (.func 249) #[] #[]] w fun e w'=>e=.returned (.tuple #[])∧∃ys,Sw w0 g n c w' ys∧StR a b xs ys∧Srt a b ys:=by
  obtain ⟨fs,hu⟩:=u_write;have HUW:=hidden hu;have HSW:=hidden h;have hwa:wrap64 ((a:Int)+1)=((a+1:Nat):Int):=by rw [Go.IntWalk.wrap64_in _ (by omega)];rfl
  have HS0:Hid (StR a b xs xs∧Srt a (a+1) xs):=⟨StR.refl hab (by rw [h.len];exact hb),Srt.one a xs⟩;have HL:Hid (∀ys,StR a b xs ys→ys.length=n):=fun ys k=>k.len.trans h.len
  clear h hu;go_enter Tryz.func313,Tryz.ntmps313
  go_wp2_with fail
  clear hwa
  go_loopw [8] (fun iv wr=>∃(k:Nat) (ys:List Wt),a<k∧k≤n+1∧iv=.int .i64 (k:Int)∧Hid (Sw w0 g n c wr ys)∧Hid (StR a b xs ys)∧Hid (Srt a k ys)) (fun iv _=>n+1-(intOf iv).toNat)
  case atStart=>exact ⟨a+1,xs,by omega,by omega,by rfl,HSW,HS0.out.1,HS0.out.2⟩
  case round=>
    clear HSW HS0;obtain ⟨k,ys,hak,hkn,rfl,hsw,hst,hso⟩:=hrel
    by_cases hlt:k<b
    · as_aux_lemma=>
        have z1:(k:Int)<(b:Int):=by omega
        have hwk:wrap64 ((k:Int)+1)=((k+1:Nat):Int):=by rw [Go.IntWalk.wrap64_in _ (by omega)];rfl
        have HB0:Hid (But a k k ys):=But.of hso.out;clear hso
        go_wp2_with fail
        go_loopw [9] (fun jv wr=>∃(j:Nat) (ys:List Wt),a≤j∧j≤k∧jv=.int .i64 (j:Int)∧Hid (Sw w0 g n c wr ys)∧Hid (StR a b xs ys)∧Hid (But a k j ys)) (fun jv _=>(intOf jv).toNat)
        case atStart=>exact ⟨k,ys,by omega,by omega,rfl,hsw,hst,HB0⟩
        case round=>
          clear HB0 hsw hst ys;obtain ⟨j,ys,haj,hjk,rfl,hsw,hst,hbut⟩:=hrel;have z1:(k:Int)<(b:Int):=by omega
          have hwk:wrap64 ((k:Int)+1)=((k+1:Nat):Int):=by rw [Go.IntWalk.wrap64_in _ (by omega)];rfl
          by_cases hja:a<j
          · obtain ⟨j1,hj⟩:∃j1,j=j1+1:=⟨j-1,by omega⟩
            have HJ:=hidden hj;have z2:(a:Int)<(j:Int):=by omega
            have z3:(0:Int)≤(j:Int):=by omega
            have z4:(j:Int)<(n:Int):=by omega
            have z5:(0:Int)≤(j1:Int):=by omega
            have z6:(j1:Int)<(n:Int):=by omega
            have z7:(j:Int)-1=(j1:Int):=by omega
            have z8:wrap64 (j1:Int)=(j1:Int):=Go.IntWalk.wrap64_in _ (by omega);have z9:IntKind.i64.wrap (j1:Int)=(j1:Int):=by rw [IntKind.wrap_i64];omega
            obtain ⟨X,Y,htwo⟩:=hsw.out.twos j j1 (by omega) (by omega);have HT:=hidden htwo;have HT0:=hidden (htwo wr (Below.refl _ _));have HCM:Hid (cmp X.k Y.k<0↔Ahead (ky ys j) (ky ys (j-1))):=by show _↔_;rw [show j-1=j1 by omega];exact HT0.out.lt
            have HC:=hidden HT0.out.call;obtain ⟨r,hr⟩:∃r,r=cmp X.k Y.k:=⟨_,rfl⟩;rw [← hr] at HC HCM;clear htwo hr hj
            go_wp2_with fail
            have d0:Kb wr wr.drew:=(Below.refl _ _).drew;refine wp_region_held_drew (S:=fun w'=>w'.rangeAt g (j * 34) (encW X)∧w'.rangeAt g (j1 * 34) (encW Y)) (by kernel_rfl) ((HT.out _ d0).rg) (fun hHeld=>?_);refine tkp 0 (.int .i64 (j:Int)) hHeld ?_;simp only [Act.put,zq1,zq2,zq4,zq5,zq6];refine tkp 1 (.int .i64 (a:Int)) hHeld ?_;simp only [Act.put,zq1,zq2,zq3,zq4,zq5,zq6];refine tkp 2 (.bool true) hHeld ?_;simp only [Act.put,zq1,zq2,zq3,zq4,zq5,zq6];refine tkp 3 (.bool true) hHeld ?_;simp only [Act.put,zq1,zq2,zq3,zq4,zq5,zq6];refine tkp 4 (.func (.func 249) #[] #[]) hHeld ?_;simp only [Act.put,zq1,zq2,zq3,zq4,zq5,zq6];refine tkp 5 (.slice (some ⟨g,0,none⟩) n c) hHeld ?_;simp only [Act.put,zq1,zq2,zq3,zq4,zq5,zq6];refine tkp 6 (.int .i64 (j:Int)) hHeld ?_;simp only [Act.put,zq1,zq2,zq3,zq4,zq5,zq6];refine tkp 7 (.pointer (some ⟨g,j * 34,none⟩)) hHeld ?_;simp only [Act.put,zq1,zq2,zq3,zq4,zq5,zq6];refine tkg 8 (.agg (encW X).toArray) rfl (yieldsIf_load_mid rfl 198 (.tmp 25) rfl g (j * 34) rfl (encW X) _ (fun w hS=>hS.1) HUW.out rfl HT0.out.sx) hHeld ?_;simp only [Act.put,zq1,zq2,zq3,zq4,zq5,zq6];refine tkp 9 (.slice (some ⟨g,0,none⟩) n c) hHeld ?_;simp only [Act.put,zq1,zq2,zq3,zq4,zq5,zq6];refine tkp 10 (.int .i64 (j:Int)) hHeld ?_;simp only [Act.put,zq1,zq2,zq3,zq4,zq5,zq6];refine tkp 11 (.int .i64 (j1:Int)) hHeld ?_;simp only [Act.put,zq1,zq2,zq3,zq4,zq5,zq6];refine tkp 12 (.pointer (some ⟨g,j1 * 34,none⟩)) hHeld ?_;simp only [Act.put,zq1,zq2,zq3,zq4,zq5,zq6];refine tkg 13 (.agg (encW Y).toArray) rfl (yieldsIf_load_mid rfl 198 (.tmp 30) rfl g (j1 * 34) rfl (encW Y) _ (fun w hS=>hS.2) HUW.out rfl HT0.out.sy) hHeld ?_;simp only [Act.put,zq1,zq2,zq3,zq4,zq5,zq6];refine wpAnyH_ready (rs:=[14]) (by kernel_rfl) (by simp) ?_;refine AllReadyH.cons rfl (fun KQ hK=>?_) AllReadyH.nil;go_simp;refine (HC.out _).mono ?_;rintro e wx ⟨rfl,bx⟩;have d1:=grow_trans d0 bx;refine hK.out _ _ ((HT.out _ d1).rg) (fun hHeld=>?_);clear hK KQ;refine tkp 15 (.bool (decide (r<0))) hHeld ?_;simp only [Act.put,zq1,zq2,zq3,zq4,zq5,zq6];refine tkp 16 (.bool (decide (r<0))) hHeld ?_;simp only [Act.put,zq1,zq2,zq3,zq4,zq5,zq6];refine wpAnyH_done (by kernel_rfl) ?_ _;clear HC HT0
            by_cases hr0:r<0
            · as_aux_lemma=>
                have HAL:=hidden (HCM.out.1 hr0);clear HCM
                go_wp2_with fail
                have d2:=grow_trans d1 (Below.refl _ _).drew;have HT2:=hidden (HT.out _ d2);refine wp_region_wrote (S:=fun w'=>w'.rangeAt g (j * 34) (encW X)∧w'.rangeAt g (j1 * 34) (encW Y)) [15,17] (by kernel_rfl) (HT2.out.rg) (fun hHeld=>?_);refine wpAnyW_take0 (i:=0) (v:=.slice (some ⟨g,0,none⟩) n c) rfl (by kernel_rfl) (by kernel_rfl) (by kernel_rfl) (by kernel_rfl) (fun _ _ _ h=>h) (Or.inl ⟨by rfl,fun w hS=>by go_simp⟩) (.inr hHeld) ?_;simp only [Act.put,zq1,zq2,zq4,zq5,zq6];refine wpAnyW_take0 (i:=1) (v:=.int .i64 (j:Int)) rfl (by kernel_rfl) (by kernel_rfl) (by kernel_rfl) (by kernel_rfl) (fun _ _ _ h=>h) (Or.inl ⟨by rfl,fun w hS=>by go_simp⟩) (.inr hHeld) ?_;simp only [Act.put,zq1,zq2,zq3,zq4,zq5,zq6];refine wpAnyW_take0 (i:=2) (v:=.slice (some ⟨g,0,none⟩) n c) rfl (by kernel_rfl) (by kernel_rfl) (by kernel_rfl) (by kernel_rfl) (fun _ _ _ h=>h) (Or.inl ⟨by rfl,fun w hS=>by go_simp⟩) (.inr hHeld) ?_;simp only [Act.put,zq1,zq2,zq3,zq4,zq5,zq6];refine wpAnyW_take0 (i:=3) (v:=.int .i64 (j:Int)) rfl (by kernel_rfl) (by kernel_rfl) (by kernel_rfl) (by kernel_rfl) (fun _ _ _ h=>h) (Or.inl ⟨by rfl,fun w hS=>by go_simp⟩) (.inr hHeld) ?_;simp only [Act.put,zq1,zq2,zq3,zq4,zq5,zq6];refine wpAnyW_take0 (i:=4) (v:=.int .i64 (j1:Int)) rfl (by kernel_rfl) (by kernel_rfl) (by kernel_rfl) (by kernel_rfl) (fun _ _ _ h=>h) (Or.inl ⟨by rfl,fun w hS=>by go_simp⟩) (.inr hHeld) ?_;simp only [Act.put,zq1,zq2,zq3,zq4,zq5,zq6];refine wpAnyW_take0 (i:=5) (v:=.slice (some ⟨g,0,none⟩) n c) rfl (by kernel_rfl) (by kernel_rfl) (by kernel_rfl) (by kernel_rfl) (fun _ _ _ h=>h) (Or.inl ⟨by rfl,fun w hS=>by go_simp⟩) (.inr hHeld) ?_;simp only [Act.put,zq1,zq2,zq3,zq4,zq5,zq6];refine wpAnyW_take0 (i:=6) (v:=.int .i64 (j:Int)) rfl (by kernel_rfl) (by kernel_rfl) (by kernel_rfl) (by kernel_rfl) (fun _ _ _ h=>h) (Or.inl ⟨by rfl,fun w hS=>by go_simp⟩) (.inr hHeld) ?_;simp only [Act.put,zq1,zq2,zq3,zq4,zq5,zq6];refine wpAnyW_take0 (i:=7) (v:=.int .i64 (j1:Int)) rfl (by kernel_rfl) (by kernel_rfl) (by kernel_rfl) (by kernel_rfl) (fun _ _ _ h=>h) (Or.inl ⟨by rfl,fun w hS=>by go_simp⟩) (.inr hHeld) ?_;simp only [Act.put,zq1,zq2,zq3,zq4,zq5,zq6];refine wpAnyW_take0 (i:=8) (v:=.pointer (some ⟨g,j1 * 34,none⟩)) rfl (by kernel_rfl) (by kernel_rfl) (by kernel_rfl) (by kernel_rfl) (fun _ _ _ h=>h) (Or.inl ⟨by rfl,fun w hS=>by go_simp⟩) (.inr hHeld) ?_;simp only [Act.put,zq1,zq2,zq3,zq4,zq5,zq6];refine wpAnyW_take (i:=9) (v:=.agg (encW Y).toArray) rfl (by kernel_rfl) (by kernel_rfl) (by kernel_rfl) (by kernel_rfl) (by kernel_rfl) (by kernel_rfl) (fun _ _ _ h=>h) (yieldsIf_load_mid rfl 198 (.tmp 45) rfl g (j1 * 34) rfl (encW Y) _ (fun w hS=>hS.2) HUW.out rfl HT2.out.sy) hHeld ?_;simp only [Act.put,zq1,zq2,zq3,zq4,zq5,zq6];refine wpAnyW_take0 (i:=10) (v:=.slice (some ⟨g,0,none⟩) n c) rfl (by kernel_rfl) (by kernel_rfl) (by kernel_rfl) (by kernel_rfl) (fun _ _ _ h=>h) (Or.inl ⟨by rfl,fun w hS=>by go_simp⟩) (.inr hHeld) ?_;simp only [Act.put,zq1,zq2,zq3,zq4,zq5,zq6];refine wpAnyW_take0 (i:=11) (v:=.int .i64 (j:Int)) rfl (by kernel_rfl) (by kernel_rfl) (by kernel_rfl) (by kernel_rfl) (fun _ _ _ h=>h) (Or.inl ⟨by rfl,fun w hS=>by go_simp⟩) (.inr hHeld) ?_;simp only [Act.put,zq1,zq2,zq3,zq4,zq5,zq6];refine wpAnyW_take0 (i:=12) (v:=.pointer (some ⟨g,j * 34,none⟩)) rfl (by kernel_rfl) (by kernel_rfl) (by kernel_rfl) (by kernel_rfl) (fun _ _ _ h=>h) (Or.inl ⟨by rfl,fun w hS=>by go_simp⟩) (.inr hHeld) ?_;simp only [Act.put,zq1,zq2,zq3,zq4,zq5,zq6];refine wpAnyW_take (i:=13) (v:=.agg (encW X).toArray) rfl (by kernel_rfl) (by kernel_rfl) (by kernel_rfl) (by kernel_rfl) (by kernel_rfl) (by kernel_rfl) (fun _ _ _ h=>h) (yieldsIf_load_mid rfl 198 (.tmp 49) rfl g (j * 34) rfl (encW X) _ (fun w hS=>hS.1) HUW.out rfl HT2.out.sx) hHeld ?_;simp only [Act.put,zq1,zq2,zq3,zq4,zq5,zq6];refine wpAnyW_take0 (i:=14) (v:=.pointer (some ⟨g,j * 34,none⟩)) rfl (by kernel_rfl) (by kernel_rfl) (by kernel_rfl) (by kernel_rfl) (fun _ _ _ h=>h) (Or.inl ⟨by rfl,fun w hS=>by go_simp⟩) (.inr hHeld) ?_;simp only [Act.put,zq1,zq2,zq3,zq4,zq5,zq6];refine wpAnyW_one (i:=15) rfl (by kernel_rfl) (by kernel_rfl) (fun KQ hK=>?_);refine step_stw _ rfl _ _ _ rfl g (j * 34) (encW Y).toArray rfl rfl HT2.out.tx HT2.out.ay HT2.out.oy ?_;refine hK.out _ _ ?_;clear hK KQ;refine wpAnyW_take0 (i:=16) (v:=.pointer (some ⟨g,j1 * 34,none⟩)) rfl (by kernel_rfl) (by kernel_rfl) (by kernel_rfl) (by kernel_rfl) (fun _ _ _ h=>h) (Or.inl ⟨by rfl,fun w hS=>by go_simp⟩) (.inl (by kernel_rfl)) ?_;simp only [Act.put,zq1,zq2,zq3,zq4,zq5,zq6];refine wpAnyW_one (i:=17) rfl (by kernel_rfl) (by kernel_rfl) (fun KQ hK=>?_);refine step_stw _ rfl _ _ _ rfl g (j1 * 34) (encW X).toArray rfl rfl HT2.out.ty HT2.out.ax HT2.out.ox ?_;refine hK.out _ _ ?_;clear hK KQ;refine wpAnyW_done (by kernel_rfl) ?_;have HSW2:=hidden HT2.out.swap;have HBU:Hid (But a k j1 (swp ys j j1)):=by
                  show But _ _ _ _;have h1:=HL.out _ hst.out;rw [swp_comm ys j j1 (by omega) (by omega),show j1=j-1 by have:=HJ.out;omega];exact hbut.out.swap (by omega) (by omega) (by omega) HAL.out
                have HST:Hid (StR a b xs (swp ys j j1)):=by
                  show StR _ _ _ _;have h1:=HL.out _ hst.out;have h0:=HAL.out;rw [show j-1=j1 by have:=HJ.out;omega] at h0;have h2:=swp_st ys j1 (by have:=HJ.out;omega) (fun e=>by rw [show j1+1=j by have:=HJ.out;omega] at e;rw [e] at h0;exact al_irr _ h0);rw [show j1+1=j by have:=HJ.out;omega] at h2;rw [swp_comm ys j j1 (by omega) (by omega)];exact hst.out.trans (h2.wide (by have:=HJ.out;omega) (by have:=HJ.out;omega) (by omega))
                have hjj:=HJ.out;clear HT HT2 d2 d1 bx hsw hst hbut HAL;generalize (wx.drew.setCells g (j * 34) (encW Y)).setCells g (j1 * 34) (encW X)=wz at HSW2 ⊢;generalize swp ys j j1=zs at HSW2 HBU HST
                go_wp2_with fail
                exact ⟨⟨j1,zs,by omega,by omega,rfl,HSW2,HST,HBU⟩,by simp [intOf];omega⟩
            · as_aux_lemma=>
                have HSO:Hid (Srt a (k+1) ys):=hbut.out.done (HT.out _ d1).sw.kys (by have:=HL.out _ hst.out;omega) hja hjk (fun q=>hr0 (HCM.out.2 q));have HSW2:=hidden (HT.out _ d1).sw;clear HCM HT
                go_wp2_with fail
                exact ⟨⟨k+1,ys,by omega,by omega,rfl,HSW2,hst,HSO⟩,by simp [intOf];omega⟩
          · as_aux_lemma=>
              have z2: ¬(a:Int)<(j:Int):=by omega
              obtain rfl:j=a:=by omega
              have HSO:=hidden hbut.out.low;clear hbut haj
              go_wp2_with fail
              refine wp_region_held_drew (S:=fun _=>True) (by kernel_rfl) (trivial) (fun hHeld=>?_);refine tkp 0 (.int .i64 (j:Int)) hHeld ?_;simp only [Act.put,zq1,zq2,zq4,zq5,zq6];refine tkp 1 (.int .i64 (j:Int)) hHeld ?_;simp only [Act.put,zq1,zq2,zq3,zq4,zq5,zq6];refine tkp 2 (.bool false) hHeld ?_;simp only [Act.put,zq1,zq2,zq3,zq4,zq5,zq6];refine tkp 3 (.bool false) hHeld ?_;simp only [Act.put,zq1,zq2,zq3,zq4,zq5,zq6];refine tks 4 hHeld ?_;simp only [Act.put,zq1,zq2,zq3,zq4,zq5,zq6];refine tks 5 hHeld ?_;simp only [Act.put,zq1,zq2,zq3,zq4,zq5,zq6];refine tks 6 hHeld ?_;simp only [Act.put,zq1,zq2,zq3,zq4,zq5,zq6];refine tks 7 hHeld ?_;simp only [Act.put,zq1,zq2,zq3,zq4,zq5,zq6];refine tks 8 hHeld ?_;simp only [Act.put,zq1,zq2,zq3,zq4,zq5,zq6];refine tks 9 hHeld ?_;simp only [Act.put,zq1,zq2,zq3,zq4,zq5,zq6];refine tks 10 hHeld ?_;simp only [Act.put,zq1,zq2,zq3,zq4,zq5,zq6];refine tks 11 hHeld ?_;simp only [Act.put,zq1,zq2,zq3,zq4,zq5,zq6];refine tks 12 hHeld ?_;simp only [Act.put,zq1,zq2,zq3,zq4,zq5,zq6];refine tks 13 hHeld ?_;simp only [Act.put,zq1,zq2,zq3,zq4,zq5,zq6];refine tks 14 hHeld ?_;simp only [Act.put,zq1,zq2,zq3,zq4,zq5,zq6];refine tks 15 hHeld ?_;simp only [Act.put,zq1,zq2,zq3,zq4,zq5,zq6];refine tkp 16 (.bool false) hHeld ?_;simp only [Act.put,zq1,zq2,zq3,zq4,zq5,zq6];refine wpAnyH_done (by kernel_rfl) ?_ _;have HSW2:=hidden (hsw.out.grow (Below.refl _ _).drew);clear hsw
              go_wp2_with fail
              exact ⟨⟨k+1,ys,by omega,by omega,rfl,HSW2,hst,HSO⟩,by simp [intOf];omega⟩
    · as_aux_lemma=>
        have z1: ¬(k:Int)<(b:Int):=by omega
        have HP:Hid (∃ys,Sw w0 g n c wr ys∧StR a b xs ys∧Srt a b ys):=⟨ys,hsw.out,hst.out,hso.out.sub (Nat.le_refl _) (by omega)⟩;clear hsw hst hso;go_wp2
        go_end0;exact ⟨rfl,HP.out⟩

end Go.Proofs.YtdjpigfibafokaaGreatDoor

namespace Go.Proofs.YtdjpigfibafokaaGreatDoor
variable {c g i j n:Nat}
variable {v v':Value}
variable {w w' w0:World}
set_option maxRecDepth 20000
open Go.RowKit

def LastW (l:List Wt) (x:Wt):Prop:=∃p s,l=p++x::s∧∀y∈s,y.k≠x.k
def Ris (r:List Wt):Prop:=r.Pairwise fun a b=>Ahead a.k b.k
structure Lat (l r:List Wt):Prop where
  ris:Ris r
  mem:∀x,x∈r↔LastW l x

theorem LastW.mem {l:List Wt} {x:Wt} (h:LastW l x):x∈l:=by
  obtain ⟨p,s,rfl,_⟩:=h;simp
theorem Lat.sub {l r:List Wt} (h:Lat l r):∀x∈r,x∈l:=fun x hx=>((h.mem x).1 hx).mem

theorem ris_one:∀(r q:List Wt),Ris r→Ris q→(∀x,x∈r↔x∈q)→r=q
  | [],[],_,_,_=>rfl
  | [],b::q,_,_,h=>absurd ((h b).2 (by simp)) (by simp)
  | a::r,[],_,_,h=>absurd ((h a).1 (by simp)) (by simp)
  | a::r,b::q,hr,hq,h=>by
    have h1:=List.pairwise_cons.1 hr;have h2:=List.pairwise_cons.1 hq;have e:a=b:=by
      rcases List.mem_cons.1 ((h a).1 (by simp)) with e | e
      · exact e
      · rcases List.mem_cons.1 ((h b).2 (by simp)) with f | f
        · exact f.symm
        · exact absurd (al_trans (h1.1 b f) (h2.1 a e)) (al_irr _)
    subst e;rw [ris_one r q h1.2 h2.2 fun x=>⟨fun hx=>?_,fun hx=>?_⟩]
    · rcases List.mem_cons.1 ((h x).1 (by simp [hx])) with e | e
      · subst e
        exact absurd (h1.1 x hx) (al_irr _)
      · exact e
    · rcases List.mem_cons.1 ((h x).2 (by simp [hx])) with e | e
      · subst e
        exact absurd (h2.1 x hx) (al_irr _)
      · exact e
theorem Lat.one {l r q:List Wt} (h:Lat l r) (k:Lat l q):r=q:=ris_one r q h.ris k.ris fun x=>(h.mem x).trans (k.mem x).symm

theorem isLast_filter (l:List Wt) (x:Wt):LastW l x↔(l.filter fun y=>y.k == x.k).getLast?=some x:=by
  constructor
  · rintro ⟨p,s,rfl,h⟩
    have:s.filter (fun y=>y.k == x.k)=[]:=by
      rw [List.filter_eq_nil_iff];intro y hy;simp [h y hy]
    rw [List.filter_append,List.filter_cons_of_pos (by simp),this];simp
  · intro h
    induction l with
    | nil=>simp at h
    | cons a r ih=>
      by_cases e:(r.filter fun y=>y.k == x.k).getLast?=some x
      · obtain ⟨p,s,rfl,h2⟩:=ih e
        exact ⟨a::p,s,rfl,h2⟩
      · by_cases ea:a.k=x.k
        · rw [List.filter_cons_of_pos (by simp [ea])] at h
          cases hr:r.filter (fun y=>y.k == x.k) with
          | nil=>
            rw [hr] at h;obtain rfl:a=x:=by simpa using h
            refine ⟨[],r,rfl,fun y hy e2=>?_⟩;have:=(List.filter_eq_nil_iff.1 hr) y hy;simp [e2] at this
          | cons b q=>
            rw [hr] at h e;rw [List.getLast?_cons_cons] at h;exact absurd h e
        · rw [List.filter_cons_of_neg (by simp [ea])] at h
          exact absurd h e
theorem Stab.last {l m:List Wt} (h:Stab l m) (x:Wt):LastW l x↔LastW m x:=by rw [isLast_filter,isLast_filter,h.2]

def Ltr (ys:List Wt) (j:Nat):Prop:=j+1=ys.length∨ky ys j≠ky ys (j+1)
theorem ky_get {ys:List Wt} {x:Wt} (h:ys[j]?=some x):ky ys j=x.k:=by
  unfold ky;rw [List.getElem!_eq_getElem?_getD,h];rfl
theorem srt_last {ys:List Wt} (hk:Kys ys) (hs:Srt 0 ys.length ys) (x:Wt):LastW ys x↔∃j,ys[j]?=some x∧Ltr ys j:=by
  constructor
  · rintro ⟨p,s,rfl,h⟩
    refine ⟨p.length,by simp,?_⟩;cases s with
    | nil=>left;simp
    | cons b q=>
      right;rw [ky_get (j:=p.length) (x:=x) (by simp),ky_get (j:=p.length+1) (x:=b) (by rw [List.getElem?_append_right (by omega)];simp)];exact fun e=>h b (by simp) e.symm
  · rintro ⟨j,hj,hl⟩
    have hjl:=(List.getElem?_eq_some_iff.1 hj).1;refine ⟨ys.take j,ys.drop (j+1),?_,fun y hy e=>?_⟩
    · have:ys[j]=x:=(List.getElem?_eq_some_iff.1 hj).2
      rw [← this];simp
    · obtain ⟨i,hi,rfl⟩:=List.mem_iff_getElem.1 hy
      rw [List.length_drop] at hi;rcases hl with hl | hl
      · omega
      · have e1:ky ys (j+1+i)=ky ys j:=by
          rw [ky_get hj,← e];unfold ky;rw [getElem!_pos ys _ (by omega)];simp
        have h1:=hs j (j+1) (by omega) (by omega) (by omega);have h2: ¬Ahead (ky ys (j+1+i)) (ky ys (j+1)):=by
          by_cases e0:i=0
          · subst e0
            exact al_irr _
          · exact hs (j+1) (j+1+i) (by omega) (by omega) (by omega)
        rw [e1] at h2;rcases al_tot (hk.at hjl) (hk.at (by omega)) h2 with q | q
        · exact hl q
        · exact h1 q

structure KpI (ys:List Wt) (i:Nat) (ks:List Wt):Prop where
  ris:Ris ks
  mem:∀x,x∈ks↔∃j,j<i∧ys[j]?=some x∧Ltr ys j
theorem KpI.nil (ys:List Wt):KpI ys 0 []:=⟨List.Pairwise.nil,fun x=>⟨fun h=>(by cases h),fun ⟨j,h,_⟩=>(by omega)⟩⟩
theorem KpI.skip {ys ks:List Wt} (h:KpI ys i ks) (hn: ¬Ltr ys i):KpI ys (i+1) ks:=by
  refine ⟨h.ris,fun x=>(h.mem x).trans ⟨?_,?_⟩⟩
  · rintro ⟨j,h1,h2⟩
    exact ⟨j,by omega,h2⟩
  · rintro ⟨j,h1,h2,h3⟩
    by_cases e:j=i
    · subst e;exact absurd h3 hn
    · exact ⟨j,by omega,h2,h3⟩
theorem KpI.take {ys ks:List Wt} {x:Wt} (h:KpI ys i ks) (hk:Kys ys) (hs:Srt 0 ys.length ys) (hx:ys[i]?=some x) (hn:Ltr ys i):KpI ys (i+1) (ks++[x]):=by
  have hi:=(List.getElem?_eq_some_iff.1 hx).1;refine ⟨List.pairwise_append.2 ⟨h.ris,List.pairwise_singleton _ _,fun a ha b hb=>?_⟩,fun y=>?_⟩
  · obtain rfl:b=x:=by simpa using hb
    obtain ⟨j,h1,h2,h3⟩:=(h.mem a).1 ha;rcases h3 with h3 | h3
    · omega
    · rw [← ky_get h2,← ky_get hx]
      have h4:Ahead (ky ys j) (ky ys (j+1)):=by
        rcases al_tot (hk.at (by omega)) (hk.at (by omega)) (hs j (j+1) (by omega) (by omega) (by omega)) with q | q
        · exact absurd q.symm h3
        · exact q
      by_cases e:j+1=i
      · rw [← e];exact h4
      · exact al_lt (hk.at (by omega)) (hk.at hi) h4 (hs (j+1) i (by omega) (by omega) hi)
  · rw [List.mem_append,h.mem]
    constructor
    · rintro (⟨j,h1,h2⟩ | h1)
      · exact ⟨j,by omega,h2⟩
      · obtain rfl:y=x:=by simpa using h1
        exact ⟨i,by omega,hx,hn⟩
    · rintro ⟨j,h1,h2,h3⟩
      by_cases e:j=i
      · subst e
        rw [hx] at h2;injection h2 with h2;exact .inr (by simp [h2])
      · exact .inl ⟨j,by omega,h2,h3⟩
theorem KpI.done {ls ys ks:List Wt} (h:KpI ys ys.length ks) (hk:Kys ys) (hs:Srt 0 ys.length ys) (st:Stab ls ys):Lat ls ks:=⟨h.ris,fun x=>by
  rw [h.mem,st.last x,srt_last hk hs];exact ⟨fun ⟨j,_,h2⟩=>⟨j,h2⟩,fun ⟨j,h2,h3⟩=>⟨j,(List.getElem?_eq_some_iff.1 h2).1,h2,h3⟩⟩⟩

def nrm (x:Wt):Wt:=⟨x.k,x.g,if x.g then [] else x.b,.slice none 0 0⟩
end Go.Proofs.YtdjpigfibafokaaGreatDoor

namespace Go.Proofs.YtdjpigfibafokaaGreatDoor
variable {c g i j n:Nat}
variable {v v':Value}
variable {w w' w0:World}
set_option maxRecDepth 20000
open Go.RowKit

def WrAt (w:World) (v:Value) (ls:List Wt):Prop:=
  ∃a cap,v=.slice a ls.length cap∧ls.length≤cap∧(a=none→cap=0)∧(0<ls.length→∃g off,a=some ⟨g,off,none⟩∧∀i,i<ls.length→w.rangeAt g (off+i * 34) (encW ls[i]!))∧
    (∀x∈ls,WtOk x)∧∀x∈ls,Reads w x.v x.b

theorem WrAt.grow {ls:List Wt} (h:WrAt w v ls) (hb:Kb w w'):WrAt w' v ls:=by
  obtain ⟨a,cap,e,h1,h2,h3,h4,h6⟩:=h;refine ⟨a,cap,e,h1,h2,fun hp=>?_,h4,fun x hx=>(h6 x hx).grow hb⟩;obtain ⟨g,off,ea,hr⟩:=h3 hp;exact ⟨g,off,ea,fun i hi=>rngW_grow (hr i hi) hb⟩
theorem WrAt.ok {ls:List Wt} (h:WrAt w v ls):∀x∈ls,WtOk x:=by
  obtain ⟨a,cap,e,h1,h2,h3,h4,h6⟩:=h;exact h4
theorem WrAt.reads {ls:List Wt} (h:WrAt w v ls):∀x∈ls,Reads w x.v x.b:=by
  obtain ⟨a,cap,e,h1,h2,h3,h4,h6⟩:=h;exact h6
theorem WrAt.cells {a:Addr} {ls:List Wt} (h:WrAt w (.slice (some a) n c) ls):∀j u,(flatE encW ls)[j]?=some u→w.cell? (a.add j)=some u:=by
  obtain ⟨a',cap,e,h1,h2,h3,h4,h6⟩:=h;intro j u hu;have hl:∀x∈ls,(encW x).length=34:=fun x hx=>(h4 x hx).len
  have hj:j<ls.length * 34:=by rw [← flatE_len ls hl];exact (List.getElem?_eq_some_iff.1 hu).1
  obtain ⟨g,off,ea,hr⟩:=h3 (by omega);injection e with e1 _ _;rw [ea] at e1;injection e1 with e1;subst e1;have hi:j / 34<ls.length:=by omega
  have h7:=hr (j / 34) hi;rw [getElem!_pos ls _ hi] at h7;have hlt:j % 34<(encW ls[j / 34]).length:=by rw [hl _ (List.getElem_mem hi)];omega
  have h8:=flatE_at ls hl (j / 34) hi (j % 34) _ (List.getElem?_eq_getElem hlt);rw [show j / 34 * 34+j % 34=j by omega,hu] at h8;rw [Addr.add_lit,show off+j=off+j / 34 * 34+j % 34 by omega];refine h7 (j % 34) u ?_;rw [List.getElem?_eq_getElem hlt];exact h8.symm
theorem wrAt_own {ls:List Wt} (h:Lst w 198 34 v ls.length (flatE encW ls)) (hok:∀x∈ls,WtOk x) (hr:∀x∈ls,Reads w x.v x.b):WrAt w v ls:=by
  rcases h.2 with ⟨rfl,hn⟩ | ⟨g,cap,cur,rfl,hb,hg,hc,_,_,_⟩
  · exact ⟨none,0,by rw [hn],by omega,fun _=>rfl,fun hp=>by omega,hok,hr⟩
  · refine ⟨_,cap,rfl,hc,fun e=>(by cases e),fun hp=>⟨g,0,rfl,fun i hi=>?_⟩,hok,hr⟩
    rw [Nat.zero_add,getElem!_pos ls i hi];exact (lstE_range h rfl (fun x hx=>(hok x hx).len) i hi).1

def zW:Wt:=⟨z32,false,[],.slice none 0 0⟩
theorem zW_ok:WtOk zW:=⟨⟨rfl,fun z hz=>by have:=List.eq_of_mem_replicate hz;omega⟩,Bytes.nil,none,0,rfl⟩

theorem zero_write:∀w,(zeroValue 198).run Tryz.prog w=.ok (.agg (encW zW).toArray) w:=zero_of_info (n:=34) (by kernel_rfl) |>.1

theorem wpList_bs0w {ops:Array Oper} {rest:List Oper} {op:Oper} {a:Act} {Q:Exit→Act→World→Prop} (w:World) (hgd:op.guard=none) (ho:op.op=.buildSlice 199 0 #[])
    (hk:∀w' g,w.heap.size≤g→Lst w' 198 34 (.slice (some ⟨g,0,none⟩) 0 0) 0 []→Kb w w'→wpList Tryz.prog ops Q rest (a.put op.dst (.slice (some ⟨g,0,none⟩) 0 0)) w'):wpList Tryz.prog ops Q (op::rest) a w:=by
  refine wpList_plain hgd fun K hK=>?_
  obtain ⟨i,z,hi,hz,hs,_,hzs⟩:=info_write;have ht:Tryz.prog.underlying 199=some (.slice 198):=Tryz.underlying199;have hrun:(Instr.buildSlice 199 0 #[]).run Tryz.prog w=.ok (.slice (some ⟨w.heap.size,0,none⟩) 0 0) (w.alloc (.cells #[] 198)):=by
    have he:∀f:Nat→Value,Array.map f (Array.range 0)= #[]:=fun f=>Array.eq_empty_of_size_eq_zero (by simp)
    simp [Instr.buildSlice,run_underlying ht,sizeOf,typeInfo,hi,Instr.fill,newRow,he]
  unfold Oper.wp execOp;simp only [ho,List.map_toArray,List.map_nil,Sem.run_bind,hrun,Result.andThen_ok,Sem.run_pure];refine hK _ _ (hk _ w.heap.size (Nat.le_refl _) ⟨rfl,.inr ⟨w.heap.size,0, #[],rfl,Nat.zero_le _,Blk.new _ _ _,Nat.le_refl _,by simp only [maxLen];omega,rfl,rfl⟩⟩ (grow_alloc w _))

theorem run_appWs (ty:TypeId) (w:World) (v1 v2:Value) (n1:Nat) (xs1:List Value) (ls:List Wt) (h1:Lst w 198 34 v1 n1 xs1) (h2:WrAt w v2 ls) (hn:n1+ls.length≤65536):
    ∃v' w',(Builtin.append_ #[199,199] ty #[v1,v2]).run Tryz.prog w=.ok v' w'∧Lst w' 198 34 v' (n1+ls.length) (xs1++flatE encW ls)∧w.grownBy w' v1.ownBlock∧WhereL w v1 v':=by
  obtain ⟨i,z,hi,hz,hsz,hby,hzs⟩:=info_write;have hl:∀x∈ls,(encW x).length=34:=fun x hx=>(h2.ok x hx).len
  have h0:ls=[]→∃v' w',(Builtin.append_ #[199,199] ty #[v1,v2]).run Tryz.prog w=.ok v' w'∧Lst w' 198 34 v' (n1+ls.length) (xs1++flatE encW ls)∧w.grownBy w' v1.ownBlock∧WhereL w v1 v':=fun e=>by
    subst e;obtain ⟨a,cap,rfl,_⟩:=h2;refine ⟨v1,w,?_,by simpa [flatE] using h1,World.grownBy.refl _ _,.inl rfl⟩;have ht:Tryz.prog.underlying 199=some (.slice 198):=Tryz.underlying199;rcases h1.2 with ⟨rfl,rfl⟩ | ⟨g,cap,cur,rfl,hb,hg,hnc,hcm,hcs,htk⟩
    · cases a with
      | none=>simp [Builtin.append_,run_underlying ht,sizeOf,typeInfo,hi,Builtin.lenOf,Builtin.firstCells]
      | some a=>simp [Builtin.append_,run_underlying ht,sizeOf,typeInfo,hi,Builtin.lenOf,Builtin.firstCells,loadCells,loadCellsFrom]
    · cases a with
      | none=>simp [Builtin.append_,run_underlying ht,sizeOf,typeInfo,hi,Builtin.lenOf,Builtin.firstCells,hnc,storeCells]
      | some a=>simp [Builtin.append_,run_underlying ht,sizeOf,typeInfo,hi,Builtin.lenOf,Builtin.firstCells,loadCells,loadCellsFrom,hnc,storeCells]
  by_cases e:ls=[]
  · exact h0 e
  · have hp:0<ls.length:=List.length_pos_iff.2 e
    obtain ⟨a,cap,rfl,q1,q2,q3,q4⟩:=id h2;obtain ⟨g,off,rfl,_⟩:=q3 hp;exact run_appL (P:=Tryz.prog) w 199 ty 198 i z 34 64 Tryz.underlying199 hi hz hsz hby hzs (by omega) v1 n1 xs1 h1 ⟨g,off,none⟩ ls.length cap (flatE encW ls) (flatE_len ls hl) h2.cells (flatE_one ls fun x hx=>(h2.ok x hx).one) hp (by simp only [maxLen];omega) (by omega)

theorem wpList_appWs {ops:Array Oper} {rest:List Oper} {o:Oper} {a:Act} {Q:Exit→Act→World→Prop} (w:World) (hgd:o.guard=none) (s x:Operand)
    (hop:o.op=.call { callee:=.builtin .append,args:= #[s,x],argTypes:= #[199,199]})
    (v1 v2:Value) (n1:Nat) (xs1:List Value) (ls:List Wt) (hs:a.eval s=v1) (hx:a.eval x=v2) (h1:Lst w 198 34 v1 n1 xs1) (h2:WrAt w v2 ls) (hn:n1+ls.length≤65536)
    (hk:∀v' w',Lst w' 198 34 v' (n1+ls.length) (xs1++flatE encW ls)→w.grownBy w' v1.ownBlock→WhereL w v1 v'→wpList Tryz.prog ops Q rest (a.put o.dst v') w'):wpList Tryz.prog ops Q (o::rest) a w:=by
  refine wpList_plain hgd fun K hK=>?_
  obtain ⟨v',w',hr,q1,q2,q3⟩:=run_appWs o.type w v1 v2 n1 xs1 ls h1 h2 hn;unfold Oper.wp execOp;simp only [hop,resolve,invoke,builtin,Sem.run_bind,Sem.run_pure,Result.andThen_ok,List.map_toArray,List.map_cons,List.map_nil,hs,hx,hr];exact hK _ _ (hk v' w' q1 q2 q3)

theorem wpList_bsw {ops:Array Oper} {rest:List Oper} {op:Oper} {a:Act} {Q:Exit→Act→World→Prop} (w:World) (hgd:op.guard=none) (x:Operand) (ho:op.op=.buildSlice 199 1 #[(0,x)])
    (X:Wt) (hx:a.eval x=.agg (encW X).toArray) (hl:(encW X).length=34)
    (hk:∀w' g,w.heap.size≤g→Blk w' g 198 (encW X).toArray→Kb w w'→wpList Tryz.prog ops Q rest (a.put op.dst (.slice (some ⟨g,0,none⟩) 1 1)) w'):wpList Tryz.prog ops Q (op::rest) a w:=by
  refine wpList_plain hgd fun K hK=>?_
  obtain ⟨i,z,hi,hz,hs,_,hzs⟩:=info_write;have hrun:=run_buildSlice (P:=Tryz.prog) w 199 198 1 #[(0,.agg (encW X).toArray)] (encW X).toArray i z Tryz.underlying199 hi hz (by rw [hs];omega) (by rw [hs];omega) (by
    rw [hs];obtain ⟨zs,hzz,hzl⟩:∃zs:List Value,(Array.range (1 * 34)).map (z.cells[· % z.cells.size]!)=zs.toArray∧zs.length=34:=⟨_,(Array.toArray_toList).symm,by simp⟩;rw [hzz];have:=fill_one (fun i=>some (i * 34,34)) 0 0 34 (.agg (encW X).toArray) (encW X) zs [] rfl rfl hl (by omega);rw [show (#[(0,Value.agg (encW X).toArray)]:Array (Nat×Value)).toList=[(0,Value.agg (encW X).toArray)] from rfl,this,Instr.fill];simp [hzl])
  unfold Oper.wp execOp;simp only [ho,List.map_toArray,List.map_cons,List.map_nil,hx,Sem.run_bind,hrun,Result.andThen_ok,Sem.run_pure];exact hK _ _ (hk _ w.heap.size (Nat.le_refl _) (Blk.new w _ _) (grow_alloc w _))

end Go.Proofs.YtdjpigfibafokaaGreatDoor

namespace Go.Proofs.YtdjpigfibafokaaGreatDoor
variable {c g i j n:Nat}
variable {v v':Value}
variable {w w' w0:World}
set_option maxRecDepth 20000
open Go.RowKit

def wrPlaces:Nat→Option (Nat×Nat):=fun i=>(#[(0,32),(32,1),(33,1)]:Array (Nat×Nat))[i]?

theorem builtW_eq (ps:List (Nat×Value)):Tryz.prog.built 198 ps=Instr.fill wrPlaces (encW zW).toArray ps:=by kernel_rfl

theorem enc_part (K:Lq) (a b:Value) (hk:K.length=32):(K.map (Value.int .u8)++[a,b]).drop 33=[b]∧(K.map (Value.int .u8)++[a,b]).take 33=K.map (Value.int .u8)++[a]∧(K.map (Value.int .u8)++[a,b]).drop 34=[]∧(K.map (Value.int .u8)++[a,b]).take 32=K.map (Value.int .u8):=by
  have hl:(K.map (Value.int .u8)).length=32:=by simp [hk]
  refine ⟨?_,?_,?_,?_⟩
  · rw [show (33:Nat)=(K.map (Value.int .u8)).length+1 by omega,List.drop_length_add_append];rfl
  · rw [show (33:Nat)=(K.map (Value.int .u8)).length+1 by omega,List.take_length_add_append];rfl
  · rw [show (34:Nat)=(K.map (Value.int .u8)).length+2 by omega,List.drop_length_add_append];rfl
  · rw [← hl,List.take_left]
theorem fillW_key (K:Lq) (ps:List (Nat×Value)) (hk:K.length=32):Instr.fill wrPlaces (encW zW).toArray ((0,.agg (B K))::ps)=Instr.fill wrPlaces (K.map (Value.int .u8)++[Value.bool false,Value.slice none 0 0]).toArray ps:=by
  rw [fill_one wrPlaces 0 0 32 _ (K.map (Value.int .u8)) _ _ rfl (cells_b K) (by simp [hk]) (by simp [encW,zW,z32])];have:(encW zW).drop (0+32)=[.bool false,.slice none 0 0]:=by rfl
  rw [this];rfl

theorem built_wkgv (K b:Lq) (g:Bool) (a:Option Addr) (l c:Nat) (hk:K.length=32):Tryz.prog.built 198 [(0,.agg (B K)),(1,.bool g),(2,.slice a l c)]=some (encW ⟨K,g,b,.slice a l c⟩).toArray:=by
  obtain ⟨e1,e2,e3,e4⟩:=enc_part K (.bool false) (.slice none 0 0) hk;obtain ⟨f1,f2,f3,f4⟩:=enc_part K (.bool g) (.slice none 0 0) hk;rw [builtW_eq,fillW_key K _ hk,fill_one wrPlaces 1 32 1 _ [.bool g] _ _ rfl rfl rfl (by simp [hk]),show 32+1=33 from rfl,e1,e4];rw [show K.map (Value.int .u8)++[Value.bool g]++[Value.slice none 0 0]=K.map (Value.int .u8)++[Value.bool g,Value.slice none 0 0] by simp];rw [fill_one wrPlaces 2 33 1 _ [.slice a l c] _ _ rfl rfl rfl (by simp [hk]),Instr.fill,show 33+1=34 from rfl,f2,f3];simp [encW]

structure AccW (wb w:World) (v:Value) (n:Nat) (xs:List Value):Prop where
  own:Lst w 198 34 v n xs
  new:∀g,v.ownBlock=some g→wb.heap.size≤g
  bel:Kb wb w
theorem AccW.nil (w:World):AccW w w (.slice none 0 0) 0 []:=⟨⟨rfl,.inl ⟨rfl,rfl⟩⟩,fun g hg=>by simp [Value.ownBlock] at hg,Below.refl _ _⟩
theorem AccW.grow {wb:World} {xs:List Value} (h:AccW wb w v n xs) (hb:Kb w w'):AccW wb w' v n xs:=⟨lst_grow h.own hb,h.new,grow_trans h.bel hb⟩
theorem AccW.app {wb:World} {n':Nat} {xs xs':List Value} (h:AccW wb w v n xs) (k1:Lst w' 198 34 v' n' xs') (k2:w.grownBy w' v.ownBlock) (k3:WhereL w v v'):AccW wb w' v' n' xs':=by
  refine ⟨k1,fun g hg=>?_,h.bel.grown k2 h.bel.size h.new⟩;rcases k3 with k3 | ⟨k,e,k4⟩
  · exact h.new g (by rw [← k3];exact hg)
  · rw [hg] at e
    injection e with e;have:=h.bel.size;omega

theorem wrAt_blk {X:Wt} (hb:Blk w g 198 (encW X).toArray) (hok:WtOk X) (hr:Reads w X.v X.b):WrAt w (.slice (some ⟨g,0,none⟩) 1 1) [X]:=by
  refine ⟨_,1,rfl,Nat.le_refl _,fun e=>(by cases e),fun _=>⟨g,0,rfl,fun i hi=>?_⟩,fun y hy=>?_,fun y hy=>?_⟩
  · obtain rfl:i=0:=by simp at hi;omega
    have:=hb.range;simpa using this
  · obtain rfl:y=X:=by simpa using hy
    exact hok
  · obtain rfl:y=X:=by simpa using hy
    exact hr

end Go.Proofs.YtdjpigfibafokaaGreatDoor
