/- A map from texts to numbers: what versions keep their roots in. -/
import Derived.Test.YtdjpigfibafokaaGreatDoorDz01
import Derived.Test.YtdjpigfibafokaaGreatDoorDz13
import Derived.Sort.KeysCollected
import Derived.Test.YtdjpigfibafokaaGreatDoorDz12
import Derived.Test.YtdjpigfibafokaaGreatDoorDz04
import Derived.ChangeKeysEq
import Derived.Laws.StructEq
import Derived.Test.YtdjpigfibafokaaGreatDoorDz03
import Derived.KernelRfl
namespace Go.Proofs.YtdjpigfibafokaaGreatDoor
variable {cs:Lz}
variable {fr pend:List Nat}
variable {g gs room:Nat}
variable {vf vp:Value}
variable {w:World}
set_option maxHeartbeats 1000000
set_option maxRecDepth 20000
open Go.RowKit

abbrev Nms:=List (List UInt8×Nat)
def nmHas (ms:Nms) (k:List UInt8):Bool:=ms.any (fun p=>p.1 == k)
def nmPut (ms:Nms) (k:List UInt8) (v:Nat):Nms:=(k,v)::ms.filter (fun p=>!(p.1 == k))
def nmDel (ms:Nms) (k:List UInt8):Nms:=ms.filter (fun p=>!(p.1 == k))
def nmSort (ms:Nms):List (List UInt8):=(ms.map (·.1)).mergeSort (fun x y=>decide (x≤y))

theorem nmHas_iff {ms:Nms} {k:List UInt8}:nmHas ms k=true↔k∈ms.map (·.1):=by
  simp [nmHas,List.any_eq_true]
theorem nmHas_put (ms:Nms) (k:List UInt8) (v:Nat) (x:List UInt8):nmHas (nmPut ms k v) x=(decide (x=k) || nmHas ms x):=by
  by_cases e:x=k
  · subst e
    simp [nmHas,nmPut]
  · have e': ¬k=x:=fun h=>e h.symm
    simp only [nmHas,nmPut,List.any_cons,List.any_filter,e,decide_false,Bool.false_or];have:(k == x)=false:=by simpa using e'
    rw [this,Bool.false_or];congr 1
    funext p
    by_cases q:p.1=x
    · simp [q,e]
    · simp [q]
theorem nmHas_del (ms:Nms) (k x:List UInt8):nmHas (nmDel ms k) x=(!decide (x=k) && nmHas ms x):=by
  by_cases e:x=k
  · subst e
    simp only [nmHas,nmDel,decide_true,Bool.not_true,Bool.false_and,List.any_filter];rw [Bool.eq_false_iff];intro h;obtain ⟨p,_,hp⟩:=List.any_eq_true.1 h;simp at hp
  · simp only [nmHas,nmDel,List.any_filter,e,decide_false,Bool.not_false,Bool.true_and]
    congr 1
    funext p
    by_cases q:p.1=x
    · simp [q,e]
    · simp [q]

structure Vr (D:DataW Unit) (ms:Nms):Prop where
  has:∀k,Maps.has D (.string k)=nmHas ms k
  val:∀p∈ms,∀z,D.atKey (.string p.1) z=.lit (.int .i64 (p.2:Int))
  nd:(ms.map (·.1)).Nodup
  sz:Maps.size D=ms.length

theorem Vr.new:Vr (.map []) []:=⟨fun _=>rfl,(fun _ h=>nomatch h),List.nodup_nil,rfl⟩
theorem nmDel_nd {ms:Nms} (h:(ms.map (·.1)).Nodup) (k:List UInt8):((nmDel ms k).map (·.1)).Nodup:=by
  unfold nmDel;exact (List.filter_sublist.map _).nodup h
theorem nmDel_none {ms:Nms} {k:List UInt8} (h:nmHas ms k=false):nmDel ms k=ms:=by
  refine List.filter_eq_self.2 fun p hp=>?_
  cases e:p.1 == k
  · rfl
  · have:nmHas ms k=true:=List.any_eq_true.2 ⟨p,hp,e⟩
    rw [h] at this;cases this
theorem nmDel_len:∀ {ms:Nms},(ms.map (·.1)).Nodup→∀k:List UInt8,(nmDel ms k).length+(if nmHas ms k=true then 1 else 0)=ms.length
  | [],_,_=>rfl
  | p::ms,h,k=>by
    rw [List.map_cons,List.nodup_cons] at h
    by_cases e:p.1=k
    · have h0:nmHas ms k=false:=by
        rw [Bool.eq_false_iff];exact fun q=>h.1 (e ▸ nmHas_iff.1 q)
      have h1:nmDel (p::ms) k=nmDel ms k:=by simp [nmDel,e]
      have h2:nmHas (p::ms) k=true:=by simp [nmHas,e]
      rw [h1,nmDel_none h0,if_pos h2];rfl
    · have h1:nmDel (p::ms) k=p::nmDel ms k:=by simp [nmDel,e]
      have h2:nmHas (p::ms) k=nmHas ms k:=by simp [nmHas,e]
      have:=nmDel_len h.2 k;rw [h1,h2,List.length_cons,List.length_cons];omega

theorem Vr.put {D:DataW Unit} {ms:Nms} (h:Vr D ms) (hT:Maps.Tidy D) (k:List UInt8) (v:Nat):Vr (D.put (.string k) (.lit (.int .i64 (v:Int)))) (nmPut ms k v):=by
  have hk:WideAt.IsKeyLit (.string k):=trivial;refine ⟨fun x=>?_,fun p hp z=>?_,?_,?_⟩
  · rw [nmHas_put]
    by_cases e:x=k
    · subst e
      rw [Maps.has_put_same hT.isMap hk];simp
    · rw [Maps.has_put_other (fun q=>e (by injection q)),h.has]
      simp [e]
  · rcases List.mem_cons.1 hp with rfl | hp
    · exact Maps.atKey_put_same hT.isMap hk _ _
    · obtain ⟨h1,h2⟩:=List.mem_filter.1 hp
      have e:p.1≠k:=by simpa using h2
      rw [Maps.atKey_put_other (fun q=>e (by injection q))];exact h.val p h1 z
  · show (k::(nmDel ms k).map (·.1)).Nodup
    rw [List.nodup_cons];refine ⟨fun hm=>?_,nmDel_nd h.nd k⟩;obtain ⟨p,hp,e⟩:=List.mem_map.1 hm;have:=(List.mem_filter.1 hp).2;simp [e] at this
  · rw [Maps.size_put hT,h.has,h.sz]
    have:=nmDel_len h.nd k;show _=(nmDel ms k).length+1;split at this <;> rename_i q
    · rw [if_pos q]
      omega
    · rw [if_neg q]
      omega
theorem Vr.del {D:DataW Unit} {ms:Nms} (h:Vr D ms) (hT:Maps.Tidy D) (k:List UInt8):Vr (D.del (.string k)) (nmDel ms k):=by
  refine ⟨fun x=>?_,fun p hp z=>?_,nmDel_nd h.nd k,?_⟩
  · rw [nmHas_del]
    by_cases e:x=k
    · subst e
      rw [Maps.has_del_same];simp
    · rw [Maps.has_del_other (fun q=>e (by injection q)),h.has]
      simp [e]
  · obtain ⟨h1,h2⟩:=List.mem_filter.1 hp
    have e:p.1≠k:=by simpa using h2
    rw [Maps.atKey_del_other (fun q=>e (by injection q))];exact h.val p h1 z
  · have h1:=Maps.size_del (k:=.string k) hT
    rw [h.has,h.sz] at h1;have h2:=nmDel_len h.nd k;omega

def VM (w:World) (b n:Nat) (ms:Nms):Prop:=∃D:DataW Unit,w.ownsMap Tryz.prog 9 (plainElem Tryz.prog 3) b n D∧Vr D ms

theorem sK14:Maps.Keyed Tryz.prog 9:=Maps.string_keyed Tryz.underlying9
theorem sKey14 {s:ByteArray} (h:s.size≤maxLen):keyOf Tryz.prog 9 (.string s)=some (.string s.data.toList):=WideMaps.keyOf_string_mk Tryz.underlying9 h

section
variable {w w':World} {b n:Nat} {ms:Nms}
theorem VM.lt (h:VM w b n ms):b<w.heap.size:=by
  obtain ⟨D,h,_⟩:=h;exact h.lt
theorem VM.grow (h:VM w b n ms) (hb:Kb w w'):VM w' b n ms:=by
  obtain ⟨D,⟨es,clock,k1,k2⟩,h3⟩:=h;exact ⟨D,⟨es,clock,(hb.block b (Array.getElem?_eq_some_iff.1 k1).1).trans k1,k2⟩,h3⟩
theorem VM.notCells {t:TypeId} {cs:Array Value} (h:VM w b n ms) (hb:Blk w g t cs):b≠g:=by
  rintro rfl;obtain ⟨D,⟨es,clock,k1,_⟩,_⟩:=h;unfold Blk at hb;rw [k1] at hb;cases hb
theorem VM.new (w:World):VM (w.alloc (.map #[] 0)) w.heap.size 0 []:=⟨.map [],World.ownsMap_made w _ _ _,Vr.new⟩
theorem VM.just (h:VM w b n ms):VM w b ms.length ms:=by
  obtain ⟨D,⟨es,clock,h1,h2,h3,h4⟩,h5⟩:=h;refine ⟨D,⟨es,clock,h1,h2,?_,h4⟩,h5⟩;have:=h5.sz;rw [h4] at this;rw [← this];simp [Maps.size,length_sorted]

theorem VM.look (h:VM w b n ms) {s:ByteArray} (hs:s.size≤maxLen) {v:Nat} (hv:(s.data.toList,v)∈ms):(Instr.lookup 190 (.map (some b)) (.string s) false).run Tryz.prog w=.ok (.int .i64 (v:Int)) w:=by
  obtain ⟨D,h1,h2⟩:=h;obtain ⟨c,hrun,hat,_⟩:=h1.lookup_int sK14 Tryz.underlying190 Tryz.underlying3 (Tryz.zeroValue3 w) (sKey14 hs);rw [hrun];rw [h2.val _ hv] at hat;rw [lit7_inj hat]
theorem VM.ok (h:VM w b n ms) {s:ByteArray} (hs:s.size≤maxLen):∃x:Int,(Instr.lookup 190 (.map (some b)) (.string s) true).run Tryz.prog w=.ok (.tuple #[.int .i64 x,.bool (nmHas ms s.data.toList)]) w:=by
  obtain ⟨D,h1,h2⟩:=h;obtain ⟨v,ps,hrun,hR⟩:=h1.look_ok sK14 Tryz.underlying190 (Tryz.zeroValue3 w) (zd:=.lit (.int .i64 0)) (zp:=[]) (plainElem_int Tryz.underlying3 rfl) (sKey14 hs);obtain ⟨x,rfl,_⟩:=plainElem_int_inv Tryz.underlying3 hR;rw [h2.has] at hrun;exact ⟨x,hrun⟩
theorem VM.len (h:VM w b n ms) (ty:TypeId):(Builtin.len_ #[190] ty #[.map (some b)]).run Tryz.prog w=.ok (.int .i64 (ms.length:Int)) w:=by
  obtain ⟨D,h1,h2⟩:=h;rw [h1.len Tryz.underlying190 ty,h2.sz]
theorem VM.put (h:VM w b n ms) {s:ByteArray} (hs:s.size≤maxLen) (v:Nat) (hv:v≤2147483648) (hn:n≤1073741824):∃w',(Instr.mapUpdate 190 (.map (some b)) (.string s) (.int .i64 (v:Int))).run Tryz.prog w=.ok () w'∧VM w' b (n+1) (nmPut ms s.data.toList v)∧w.grownBy w' (some b):=by
  obtain ⟨D,h1,h2⟩:=h;obtain ⟨w',hrun,hown,hg⟩:=h1.update sK14 Tryz.underlying190 (by simp only [maxLen];omega) (sKey14 hs) (plainElem_int (H:=Unit) Tryz.underlying3 (wfi_nat v hv));exact ⟨w',hrun,⟨_,hown,h2.put (h1.tidy sK14) _ _⟩,hg⟩
theorem VM.drop (h:VM w b n ms) {s:ByteArray} (hs:s.size≤maxLen) (ty:TypeId):∃w',(Builtin.delete_ #[190,9] ty #[.map (some b),.string s]).run Tryz.prog w=.ok (.tuple #[]) w'∧VM w' b n (nmDel ms s.data.toList)∧w.grownBy w' (some b):=by
  obtain ⟨D,h1,h2⟩:=h;obtain ⟨w',hrun,hown,hg⟩:=h1.drop sK14 Tryz.underlying190 (sKey14 hs) ty;exact ⟨w',hrun,⟨_,hown,h2.del (h1.tidy sK14) _⟩,hg.grown⟩
theorem VM.keys (h:VM w b n ms):∃D:DataW Unit,w.ownsMap Tryz.prog 9 (plainElem Tryz.prog 3) b n D∧Vr D ms∧∀ss:List (List UInt8),ss.Perm (strKeys D)→ss.mergeSort (fun x y=>decide (x≤y))=nmSort ms:=by
  obtain ⟨D,h1,h2⟩:=h;refine ⟨D,h1,h2,fun ss hp=>?_⟩;obtain ⟨es,hD,hpw,_⟩:=h1.entries sK14;obtain ⟨es',hD',hko⟩:=h1.keysOf;obtain rfl:es=es':=by rw [hD] at hD';simpa using hD'
  subst hD;have hq:(ms.map (·.1)).Perm (strKeys (DataW.map es)):=perm_strKeys hpw (fun p hp=>by
    obtain ⟨v,hv⟩:=hko p hp;obtain ⟨x,_,hx,_⟩:=Maps.keyOf_str Tryz.underlying9 hv;exact ⟨x,hx⟩) h2.nd (fun x=>by rw [h2.has,nmHas_iff])
  exact mergeSort_of_perm (hp.trans hq.symm)
end

end Go.Proofs.YtdjpigfibafokaaGreatDoor

namespace Go.Proofs.YtdjpigfibafokaaGreatDoor
variable {cs:Lz}
variable {fr pend:List Nat}
variable {g gs room:Nat}
variable {vf vp:Value}
variable {w:World}
set_option maxHeartbeats 1000000
set_option maxRecDepth 20000
open Go.RowKit

theorem Stm.c0 (h:Stm w g gs vp vf room cs fr):w.cell? ⟨g,0,none⟩=some (.pointer (some ⟨g,0,none⟩)):=by rw [h.blk.cell];rfl
theorem Stm.c1 (h:Stm w g gs vp vf room cs fr):w.cell? ⟨g,1,none⟩=some (.pointer (some ⟨gs,0,none⟩)):=by rw [h.blk.cell];rfl

def NoS (w:World) (v:Value):Prop:=v=.pointer none∨∃g,v=.pointer (some ⟨g,0,none⟩)∧w.cell? ⟨g,0,none⟩=some (.pointer none)
theorem madeS_no (v:Value) (w:World) (h:NoS w v):Kc 75 #[v] w fun e w'=>e=.returned (.bool false)∧w'=w:=by
  have hq:=fun a=>eql_none (P:=Tryz.prog) w a Tryz.underlying51
  rcases h with rfl | ⟨g,rfl,hc⟩
  all_goals
    go_enter Tryz.func75,Tryz.ntmps75
    go_wp2
    go_ret;exact ⟨rfl,rfl⟩

theorem madeS_ok (g:Nat) (w:World) (hc:w.cell? ⟨g,0,none⟩=some (.pointer (some ⟨g,0,none⟩))):Kc 75 #[.pointer (some ⟨g,0,none⟩)] w fun e w'=>e=.returned (.bool true)∧w'=w:=by
  obtain ⟨j,hj⟩:∃j,Tryz.prog.info? 148=some j:=⟨_,rfl⟩;have hq:=fun a=>run_eql_ptr_same (P:=Tryz.prog) w a Tryz.underlying51 hj
  clear hj;go_enter Tryz.func75,Tryz.ntmps75
  go_wp2
  go_ret;exact ⟨rfl,rfl⟩

theorem get_any (s:Stm w g gs vp vf room cs fr) (hw:Wz cs) (h:Int):Kc 204 #[.pointer (some ⟨gs,0,none⟩),.int .i64 h] w fun e w'=>e=.returned (.tuple #[.agg (cz (cat cs h)).toArray,.int .i64 (if cot cs h=0 then 7 else 0)])∧Kb w w':=by
  by_cases hc:cot cs h=0
  · rw [if_pos hc,hw.cat0 hc]
    exact get_badC gs vp vf room _ fr h w s.sl ((cot_out cs h).2 hc)
  · obtain ⟨i,h1,h2,h3,h4⟩:=cot_in (cs:=cs) (h:=h) (by omega)
    rw [if_neg hc,h4];exact get_okC gs vp vf room _ fr h i (cz (ce cs i)) (cz_th (hw.ok i)) w s.sl h1 (by rw [cnt_pl];exact h2) (thg_pl cs i (cc_lt h2))

theorem count_any (s:Stm w g gs vp vf room cs fr) (h:Int):Kc 134 #[.pointer (some ⟨gs,0,none⟩),.int .i64 h] w fun e w'=>e=.returned (.int .i64 (cot cs h:Int))∧w'=w:=by
  by_cases hc:cot cs h=0
  · rw [hc]
    exact count_badC gs vp vf room _ fr h w s.sl ((cot_out cs h).2 hc)
  · obtain ⟨i,h1,h2,h3,h4⟩:=cot_in (cs:=cs) (h:=h) (by omega)
    rw [h3,← cnt_pl];exact count_okC gs vp vf room _ fr h i w s.sl h1 (by rw [cnt_pl];exact h2)

theorem atS_ok (s:Stm w g gs vp vf room cs fr) (hw:Wf cs pend) (h:Int):Kc 125 #[.pointer (some ⟨g,0,none⟩),.int .i64 h] w fun e w'=>e=.returned (.agg (cz (cat cs h)).toArray)∧Kb w w':=by
  have HS:Hid (∀w',Kb w w'→Stm w' g gs vp vf room cs fr):=fun w' hb=>s.grow hb
  have HW:=hidden hw;have HG:Hid (Kr w 204 #[.pointer (some ⟨gs,0,none⟩),.int .i64 h] (.tuple #[.agg (cz (cat cs h)).toArray,.int .i64 (if cot cs h=0 then 7 else 0)])):=fun w' hb=>get_any (s.grow hb) hw.z h
  have hz:=cz_th (hw.catOk h);generalize cz (cat cs h)=z at HG hz ⊢;generalize (if cot cs h=0 then (7:Int) else 0)=q at HG;have HZ:=hidden hz;clear s hw hz;go_enter Tryz.func125,Tryz.ntmps125
  go_wp2_with (first
    |((with_reducible refine at_ald 4 ?_);refine wpList_al _ rfl _ rfl _ zero_thC ?_;intro w1 b4 hg4 hl4 B4 b1;have c0:=(HS.out _ b1).c0;have c1:=(HS.out _ b1).c1;have HB4:=hidden B4;have Hg4:=hidden hg4;have Hl4:=hidden hl4;clear B4 hg4 hl4)
    |(go_at_call 75;refine (madeS_ok g _ c0).mono ?_;rintro e w' ⟨rfl,hx⟩;rw [hx];clear hx w')
    |(go_at_call 204;refine (HG.out _ b1).mono ?_;rintro e w2 ⟨rfl,b2⟩;have B4':=hidden (HB4.out.grow b2);have Hb2:=hidden b2;clear b2)
    |((with_reducible refine at_ald 5 ?_);refine wpList_al _ rfl _ rfl _ zero_thC ?_;intro w3 b5 hg5 hl5 B5 b3;have B4'':=hidden (B4'.out.grow b3);have Hb3:=hidden b3;have HB5:=hidden B5;have hne:b4≠b5:=(by have:=Hl4.out;have:=Hb2.out.size;omega);have Hg5:=hidden hg5;clear b3 B5 hg5 hl5)
    |((with_reducible refine at_st 5 ?_);refine wpList_sto _ rfl _ _ _ rfl b5 _ z.toArray rfl rfl HB5.out (xszC z HZ.out) (xzsC z HZ.out) (all_oneCell_toArray HZ.out.2) ?_;intro w4 B5' g5;have HB5':=hidden B5';have B4n:=hidden (B4''.out.kept g5 hne);have Hg:=hidden g5;clear B5' g5)
    |((with_reducible refine at_ldd 20 5 ?_);refine wpList_load_mid rfl _ _ rfl b5 0 rfl z _ HB5'.out.range Tryz.underlying150 rfl (xszC z HZ.out) ?_)
    |((with_reducible refine at_st 4 ?_);refine wpList_sto _ rfl _ _ _ rfl b4 _ z.toArray rfl rfl B4n.out (xszC z HZ.out) (xzsC z HZ.out) (all_oneCell_toArray HZ.out.2) ?_;intro w5 B6 g6))
  have hbel:=below_row (below_row (grow_trans (grow_trans b1 Hb2.out) Hb3.out) Hg.out (by have:=Hg5.out;have:=Hb2.out.size;have:=b1.size;omega)) g6 Hg4.out;exact bodyPost_ret (v:=.agg z.toArray) (results_cell_row rfl _ _ b4 _ _ _ _ rfl B6 Tryz.underlying150 rfl (xszC z HZ.out)) rfl ⟨rfl,hbel⟩

end Go.Proofs.YtdjpigfibafokaaGreatDoor

namespace Go.Proofs.YtdjpigfibafokaaGreatDoor
variable {cs:Lz}
variable {fr pend:List Nat}
variable {g gs room:Nat}
variable {vf vp:Value}
variable {w:World}
set_option maxHeartbeats 1000000
set_option maxRecDepth 20000
open Go.RowKit

def NoState (r:Value) (w:World):Prop:=Kc 237 #[r] w fun e w'=>e=.returned (.bool false)∧w'=w

end Go.Proofs.YtdjpigfibafokaaGreatDoor

namespace Go.Proofs.YtdjpigfibafokaaGreatDoor
variable {cs:Lz}
variable {fr pend:List Nat}
variable {g gs room:Nat}
variable {vf vp:Value}
variable {w:World}
set_option maxHeartbeats 1000000
set_option maxRecDepth 20000
open Go.RowKit

end Go.Proofs.YtdjpigfibafokaaGreatDoor
