/- versions.Name, as a contract: 1 to 20 small letters, digits and -, the first a letter. -/
import Derived.Test.YtdjpigfibafokaaGreatDoorDz01
import Derived.Test.YtdjpigfibafokaaGreatDoorDz15
import Derived.Test.YtdjpigfibafokaaGreatDoorDz02
import Derived.Test.YtdjpigfibafokaaGreatDoorDz06
import Derived.Test.YtdjpigfibafokaaGreatDoorDz24
import Derived.Test.YtdjpigfibafokaaGreatDoorDz16
import Derived.Test.YtdjpigfibafokaaGreatDoorDz04
namespace Go.Proofs.YtdjpigfibafokaaGreatDoor
variable {k:Nat}
set_option maxHeartbeats 2000000
set_option maxRecDepth 20000
open Go.RowKit

def ltr (c:Int):Bool:=decide (97≤c∧c≤122)
def dgt (c:Int):Bool:=decide (48≤c∧c≤57)
def sgn (c:Int):Bool:=ltr c || dgt c || decide (c=45)
def nmOk (s:ByteArray):Bool:=decide (1≤s.size∧s.size≤20) && ltr ((nums s).getD 0 0) && (nums s).all sgn

theorem letter_any (c:Int) (w:World):Kc 227 #[.int .u8 c] w fun e w'=>e=.returned (.bool (ltr c))∧w'=w:=by
  by_cases h1:97≤c
  · by_cases h2:c≤122
    · have e:ltr c=true:=by simp [ltr,h1,h2]
      rw [e];go_enter Tryz.func227,Tryz.ntmps227
      go_wp2
      go_ret;exact ⟨rfl,rfl⟩
    · have e:ltr c=false:=by simp [ltr,h2]
      rw [e];go_enter Tryz.func227,Tryz.ntmps227
      go_wp2
      go_ret;exact ⟨rfl,rfl⟩
  · have e:ltr c=false:=by simp [ltr,h1]
    rw [e];go_enter Tryz.func227,Tryz.ntmps227
    go_wp2
    go_ret;exact ⟨rfl,rfl⟩

theorem digit14_any (c:Int) (w:World):Kc 228 #[.int .u8 c] w fun e w'=>e=.returned (.bool (dgt c))∧w'=w:=by
  by_cases h1:48≤c
  · by_cases h2:c≤57
    · have e:dgt c=true:=by simp [dgt,h1,h2]
      rw [e];go_enter Tryz.func228,Tryz.ntmps228
      go_wp2
      go_ret;exact ⟨rfl,rfl⟩
    · have e:dgt c=false:=by simp [dgt,h2]
      rw [e];go_enter Tryz.func228,Tryz.ntmps228
      go_wp2
      go_ret;exact ⟨rfl,rfl⟩
  · have e:dgt c=false:=by simp [dgt,h1]
    rw [e];go_enter Tryz.func228,Tryz.ntmps228
    go_wp2
    go_ret;exact ⟨rfl,rfl⟩

theorem tx_empty (s:ByteArray):(s.toList == [])=decide (s.size=0):=by
  rw [Bool.eq_iff_iff,beq_iff_eq,decide_eq_true_eq,ByteArray.toList_eq];constructor
  · intro h
    show s.data.size=0;rw [← Array.length_toList,h];rfl
  · intro h
    have:s.data.size=0:=h;rw [← Array.length_toList] at this;exact List.eq_nil_of_length_eq_zero this

theorem all_take_snoc {l:Lq} {f:Int→Bool} (h:k<l.length):(l.take (k+1)).all f=((l.take k).all f && f (l.getD k 0)):=by
  rw [List.take_add_one,List.getElem?_eq_getElem h,List.all_append,List.getD_eq_getElem?_getD,List.getElem?_eq_getElem h];simp

theorem name_any (s:ByteArray) (w:World) (hs:s.size≤maxLen):Kc 167 #[.string s] w fun e w'=>e=.returned (.bool (nmOk s))∧w'=w:=by
  unfold maxLen at hs;have hem:=tx_empty s;have hnl:=nums_length s
  by_cases h0:s.size=0
  · have e:nmOk s=false:=by simp [nmOk,h0]
    rw [e];rw [decide_eq_true h0] at hem;clear hnl;go_enter Tryz.func167,Tryz.ntmps167
    go_wp2
    go_ret;exact ⟨rfl,rfl⟩
  · rw [decide_eq_false h0] at hem
    by_cases h20:20<s.size
    · have e:nmOk s=false:=by
        have: ¬(s.size≤20):=by omega
        simp [nmOk,this]
      rw [e];have i1:(20:Int)<(s.size:Int):=by omega
      clear hnl;go_enter Tryz.func167,Tryz.ntmps167
      go_wp2
      go_ret;exact ⟨rfl,rfl⟩
    · have i1: ¬(20:Int)<(s.size:Int):=by omega
      have i0:(0:Nat)<s.size:=by omega
      have g0:=nums_get s 0 i0;have HLT:Hid (∀c w,Kc 227 #[.int .u8 c] w fun e w'=>e=.returned (.bool (ltr c))∧w'=w):=letter_any;have HDG:Hid (∀c w,Kc 228 #[.int .u8 c] w fun e w'=>e=.returned (.bool (dgt c))∧w'=w):=digit14_any;cases hf:ltr ((nums s).getD 0 0)
      · have e:nmOk s=false:=by unfold nmOk;rw [hf];simp
        rw [e];rw [g0] at hf;clear hnl g0;go_enter Tryz.func167,Tryz.ntmps167
        go_wp2_with (go_at_call 227;refine (HLT.out _ _).mono ?_;rw [hf];rintro e w' ⟨rfl,hx⟩;rw [hx];clear hx w')
        go_ret;exact ⟨rfl,rfl⟩
      · have HE:Hid (nmOk s=(nums s).all sgn):=by
          show _=_;unfold nmOk;rw [hf,decide_eq_true (by omega)];simp
        rw [g0] at hf;obtain ⟨r,hr⟩:∃r,r=nmOk s:=⟨_,rfl⟩;rw [← hr] at HE;rw [← hr];have HNL:=hidden hnl;clear g0 hr hnl;go_enter Tryz.func167,Tryz.ntmps167
        go_wp2_with (go_at_call 227;refine (HLT.out _ _).mono ?_;rw [hf];rintro e w' ⟨rfl,hx⟩;rw [hx];clear hx w')
        clear hf
        go_loopw [20] (fun i wr=>∃k:Nat,k≤s.size∧i=.int .i64 (k:Int)∧Hid (((nums s).take k).all sgn=true)∧Hid (wr=w)) (fun i _=>s.size-(intOf i).toNat)
        case atStart=>exact ⟨0,Nat.zero_le _,rfl,by show _=_;simp,rfl⟩
        case round=>
          obtain ⟨k,hk,rfl,hA,hw⟩:=hrel;have hwk:wrap64 ((k:Int)+1)=((k+1:Nat):Int):=by rw [Go.IntWalk.wrap64_in _ (by omega)];rfl
          by_cases hlt:k<s.size
          · have j1:(k:Int)<(s.size:Int):=by omega
            have j0:(0:Int)≤(k:Int):=by omega
            have gk:=nums_get s k hlt;have hst:=all_take_snoc (l:=nums s) (f:=sgn) (k:=k) (by rw [HNL.out];exact hlt);rw [hA.out,gk,Bool.true_and] at hst;have HG:Hid (sgn (s[k].toNat:Int)=true→((nums s).take (k+1)).all sgn=true):=fun q=>by rw [hst,q]
            have HB:Hid (sgn (s[k].toNat:Int)=false→r=false):=fun q=>by
              rw [HE.out];rw [Bool.eq_false_iff];intro h;have h2:((nums s).take (k+1)).all sgn=true:=List.all_eq_true.2 fun x hx=>List.all_eq_true.1 h x (List.mem_of_mem_take hx)
              rw [hst,q] at h2;cases h2
            clear hst gk;have hgc:∀c:Int,sgn c=(ltr c || dgt c || decide (c=45)):=fun _=>rfl
            cases h1:ltr (s[k].toNat:Int)
            · cases h2:dgt (s[k].toNat:Int)
              · by_cases h3:(s[k].toNat:Int)=45
                · have HT:Hid (((nums s).take (k+1)).all sgn=true):=HG.out (by rw [hgc,h3];rfl)
                  have h4:((s[k].toNat:Int) == 45)=true:=by simpa using h3
                  clear HG HB hgc h3
                  go_wp2_with (first
                    |(go_at_call 227;refine (HLT.out _ _).mono ?_;rw [h1];rintro e w' ⟨rfl,hx⟩;rw [hx];clear hx w')
                    |(go_at_call 228;refine (HDG.out _ _).mono ?_;rw [h2];rintro e w' ⟨rfl,hx⟩;rw [hx];clear hx w'))
                  exact ⟨⟨k+1,by omega,by go_num,HT,hw⟩,by simp [intOf];omega⟩
                · have HT:Hid (r=false):=HB.out (by rw [hgc,h1,h2,decide_eq_false h3];rfl)
                  have h4:((s[k].toNat:Int) == 45)=false:=by simpa using h3
                  clear HG HB hgc h3
                  go_wp2_with (first
                    |(go_at_call 227;refine (HLT.out _ _).mono ?_;rw [h1];rintro e w' ⟨rfl,hx⟩;rw [hx];clear hx w')
                    |(go_at_call 228;refine (HDG.out _ _).mono ?_;rw [h2];rintro e w' ⟨rfl,hx⟩;rw [hx];clear hx w'))
                  go_ret;exact ⟨by rw [HT.out];rfl,hw.out⟩
              · have HT:Hid (((nums s).take (k+1)).all sgn=true):=HG.out (by rw [hgc,h1,h2];rfl)
                clear HG HB hgc
                go_wp2_with (first
                  |(go_at_call 227;refine (HLT.out _ _).mono ?_;rw [h1];rintro e w' ⟨rfl,hx⟩;rw [hx];clear hx w')
                  |(go_at_call 228;refine (HDG.out _ _).mono ?_;rw [h2];rintro e w' ⟨rfl,hx⟩;rw [hx];clear hx w'))
                exact ⟨⟨k+1,by omega,by go_num,HT,hw⟩,by simp [intOf];omega⟩
            · have HT:Hid (((nums s).take (k+1)).all sgn=true):=HG.out (by rw [hgc,h1];rfl)
              clear HG HB hgc
              go_wp2_with (go_at_call 227;refine (HLT.out _ _).mono ?_;rw [h1];rintro e w' ⟨rfl,hx⟩;rw [hx];clear hx w')
              exact ⟨⟨k+1,by omega,by go_num,HT,hw⟩,by simp [intOf];omega⟩
          · obtain rfl:k=s.size:=by omega
            have HT:Hid (r=true):=by
              show _=_;rw [HE.out,← hA.out,List.take_of_length_le (by rw [HNL.out];exact Nat.le_refl _)]
            go_wp2
            go_ret;exact ⟨by rw [HT.out];rfl,hw.out⟩

end Go.Proofs.YtdjpigfibafokaaGreatDoor

namespace Go.Proofs.YtdjpigfibafokaaGreatDoor
variable {k:Nat}
set_option maxHeartbeats 2000000
set_option maxRecDepth 20000
open Go.RowKit

theorem step_mup14 {ops:Array Oper} {op:Oper} {a:Act} {K:Act→World→Prop} {Q:Exit→Act→World→Prop} {E:Prop} (w w':World) (hgd:op.guard=none) (t:TypeId) (m x v:Operand) (ho:op.op=.mapUpdate t m x v) (vm vx vv:Value)
    (hm:a.eval m=vm) (hx:a.eval x=vx) (hv:a.eval v=vv) (hrun:(Instr.mapUpdate t vm vx vv).run Tryz.prog w=.ok () w')
    (hk:K (a.put op.dst undef) w'):if Region.wanted op (yielded ops a.tmps)=true then Oper.wp Tryz.prog op a w K Q else E:=by
  have hw:Region.wanted op (yielded ops a.tmps)=true:=by simp [Region.wanted,hgd]
  rw [if_pos hw];unfold Oper.wp execOp;simp [ho,hm,hx,hv,hrun,Result.andThen];exact hk

section
variable {w1 w:World} {X:List Nat} {gv b g gs R:Nat} {ms:Nms} {cs:Lz} {fr:List Nat}
theorem vstore_ok (h:Hv w1 w X gv b g gs R ms cs fr):Kc 74 #[.pointer (some ⟨gv,0,none⟩)] w fun e w'=>e=.returned (.pointer (some ⟨g,0,none⟩))∧w'=w:=by
  have HM:Hid (∀w',Kb w w'→Kc 136 #[.pointer (some ⟨gv,0,none⟩)] w' fun e w''=>e=.returned (.bool true)∧w''=w'):=fun w' hb=>vmade_ok gv w' (h.grow hb).c0
  have c1:=h.c1;clear h;go_enter Tryz.func74,Tryz.ntmps74
  go_wp2_with (go_at_call 136;refine (HM.out _ (Below.refl _ _)).mono ?_;rintro e w' ⟨rfl,hx⟩;rw [hx];clear hx w')
  go_ret;exact ⟨rfl,rfl⟩

theorem vlen_ok (h:Hv w1 w X gv b g gs R ms cs fr):Kc 168 #[.pointer (some ⟨gv,0,none⟩)] w fun e w'=>e=.returned (.int .i64 (ms.length:Int))∧w'=w:=by
  have HM:Hid (∀w',Kb w w'→Kc 136 #[.pointer (some ⟨gv,0,none⟩)] w' fun e w''=>e=.returned (.bool true)∧w''=w'):=fun w' hb=>vmade_ok gv w' (h.grow hb).c0
  have c2:=h.c2;have hl:=fun ty=>h.vm.len ty
  clear h;go_enter Tryz.func168,Tryz.ntmps168
  go_wp2_with (go_at_call 136;refine (HM.out _ (Below.refl _ _)).mono ?_;rintro e w' ⟨rfl,hx⟩;rw [hx];clear hx w')
  go_ret;exact ⟨rfl,rfl⟩

theorem vhas_ok (h:Hv w1 w X gv b g gs R ms cs fr) {s:ByteArray} (hs:s.size≤maxLen):Kc 169 #[.pointer (some ⟨gv,0,none⟩),.string s] w fun e w'=>e=.returned (.bool (nmHas ms s.data.toList))∧w'=w:=by
  have c2:=h.c2;obtain ⟨x,hx⟩:=h.vm.ok hs;generalize nmHas ms s.data.toList=q at hx ⊢;clear h hs;go_enter Tryz.func169,Tryz.ntmps169
  go_wp2
  go_ret;exact ⟨rfl,rfl⟩

theorem vroot_miss (h:Hv w1 w X gv b g gs R ms cs fr) {s:ByteArray} (hs:s.size≤maxLen) (hn:nmHas ms s.data.toList=false):Kc 95 #[.pointer (some ⟨gv,0,none⟩),.string s] w fun e w'=>e=.returned (.tuple #[.int .i64 0,.int .i64 7])∧w'=w:=by
  have HM:Hid (∀w',Kb w w'→Kc 136 #[.pointer (some ⟨gv,0,none⟩)] w' fun e w''=>e=.returned (.bool true)∧w''=w'):=fun w' hb=>vmade_ok gv w' (h.grow hb).c0
  have HH:=hidden (vhas_ok h hs);rw [hn] at HH;clear h hn;go_enter Tryz.func95,Tryz.ntmps95
  go_wp2_with (first
    |(go_at_call 136;refine (HM.out _ (Below.refl _ _)).mono ?_;rintro e w' ⟨rfl,hx⟩;rw [hx];clear hx w')
    |(go_at_call 169;refine HH.out.mono ?_;rintro e w' ⟨rfl,hx⟩;rw [hx];clear hx w'))
  go_ret2;exact ⟨rfl,rfl⟩

theorem vroot_ok (h:Hv w1 w X gv b g gs R ms cs fr) {s:ByteArray} (hs:s.size≤maxLen) {v:Nat} (hv:(s.data.toList,v)∈ms):Kc 95 #[.pointer (some ⟨gv,0,none⟩),.string s] w fun e w'=>e=.returned (.tuple #[.int .i64 (v:Int),.int .i64 0])∧w'=w:=by
  have HM:Hid (∀w',Kb w w'→Kc 136 #[.pointer (some ⟨gv,0,none⟩)] w' fun e w''=>e=.returned (.bool true)∧w''=w'):=fun w' hb=>vmade_ok gv w' (h.grow hb).c0
  have HH:=hidden (vhas_ok h hs);rw [nmHas_iff.2 (List.mem_map_of_mem (f:=(·.1)) hv)] at HH;have c2:=h.c2;have hl:=h.vm.look hs hv;clear h hv;go_enter Tryz.func95,Tryz.ntmps95
  go_wp2_with (first
    |(go_at_call 136;refine (HM.out _ (Below.refl _ _)).mono ?_;rintro e w' ⟨rfl,hx⟩;rw [hx];clear hx w')
    |(go_at_call 169;refine HH.out.mono ?_;rintro e w' ⟨rfl,hx⟩;rw [hx];clear hx w'))
  go_ret2;exact ⟨rfl,rfl⟩

def NmPost (w:World) (ms:Nms) (e:Ending) (w':World):Prop:=∃v,e=.returned v∧w'.ownsRow w.heap.size 9 1 v (nmSort ms).length ((nmSort ms).map encStr)∧Kb w w'

theorem vnames_ok (h:Hv w1 w X gv b g gs R ms cs fr) (hl:ms.length≤1000):Kc 77 #[.pointer (some ⟨gv,0,none⟩)] w (NmPost w ms):=by
  have HM:Hid (∀w',Kb w w'→Kc 136 #[.pointer (some ⟨gv,0,none⟩)] w' fun e w''=>e=.returned (.bool true)∧w''=w'):=fun w' hb=>vmade_ok gv w' (h.grow hb).c0
  have c2:=h.c2;obtain ⟨D,hown,hv,hk⟩:=h.vm.keys;have hm:Maps.size D≤maxLen:=by rw [hv.sz];unfold maxLen;omega
  have hy:Maps.size D * 16≤140737488355328:=by rw [hv.sz];omega
  have HSO:=hidden (sorted14_any b ms.length D _ w hown hm hy);have HKS:Hid (∀(mb:Option Nat) (W:World),_):=keys14_any;have HKK:=hidden hk;have HSZ:=hidden hv.sz;clear h hown hm hy hk hv;refine (callsIn_wide (n:=6)).1 ?_;have hfM:Fence.wide.fn 136:=trivial;have hfK:Fence.wide.fn 139:=trivial;have hfS:Fence.wide.fn 138:=trivial;refine callsIn_of_wp Tryz.func77 rfl trivial ?_ rfl;simp only [Tryz.ntmps77,List.size_toArray,List.length_cons,List.length_nil,Nat.reduceAdd,Nat.reduceSub,Array.replicate_succ,Array.replicate_zero,List.push_toArray,List.append_toArray,List.nil_append,List.cons_append]
  gi_wp2_with (first
    |(gi_at_call 136;refine (callsIn_wide.2 (HM.out _ (Below.refl _ _))).mono ?_;rintro e w' ⟨rfl,hx⟩;rw [hx];clear hx w')
    |(gi_at_call 139;refine (HKS.out _ _).mono ?_;rintro e w' ⟨rfl,rfl⟩)
    |(gi_at_call 138;refine HSO.out.mono ?_;rintro e w' ⟨v,ss,rfl,hS,hrow,hnil,hb⟩))
  go_ret;have hp:=HKK.out ss hS;rw [hp] at hrow;have hlen:ss.length=(nmSort ms).length:=by rw [← hp,List.length_mergeSort]
  rw [hlen] at hrow;exact ⟨v,rfl,ownsRow_base_a hrow (by simp),((Below.refl _ w).alloc (Nat.le_refl _) _).trans (hb.mono (by simp))⟩

theorem vset_end {wk:World} (h:Hv w1 wk X gv b g gs R ms cs fr) {s:ByteArray} (hs:s.size≤20) (v:Nat) (hv:v≤2147483648) (hl:ms.length≤1000):∀w',Kb wk w'→∃w'',(Instr.mapUpdate 190 (.map (some b)) (.string s) (.int .i64 (v:Int))).run Tryz.prog w'=.ok () w''∧Hv w1 w'' X gv b g gs R (nmPut ms s.data.toList v) cs fr∧Kx X b wk w'':=fun w' hb=>by
  have h':=h.grow hb;obtain ⟨w'',r,m,q⟩:=h'.vm.put (s:=s) (by unfold maxLen;omega) v hv (by omega);obtain ⟨k1,k2⟩:=h'.turn m q;exact ⟨w'',r,k1,(h.kx hb b).trans k2⟩

theorem vset_zero (h:Hv w1 w X gv b g gs R ms cs fr) {s:ByteArray} (hs:s.size≤20) (hl:ms.length≤1000):Kc 170 #[.pointer (some ⟨gv,0,none⟩),.string s,.int .i64 0] w fun e w'=>e=.returned (.int .i64 0)∧Hv w1 w' X gv b g gs R (nmPut ms s.data.toList 0) cs fr∧Kx X b w w':=by
  have HC2:Hid (∀w',Kb w w'→w'.cell? ⟨gv,2,none⟩=some (.map (some b))):=fun w' hb=>(h.grow hb).c2
  have HPU:Hid (∀w',Kb w w'→∃w'',(Instr.mapUpdate 190 (.map (some b)) (.string s) (.int .i64 0)).run Tryz.prog w'=.ok () w''∧Hv w1 w'' X gv b g gs R (nmPut ms s.data.toList 0) cs fr∧Kx X b w w''):=vset_end h hs 0 (by omega) hl;have HCL:Hid (∀w',Kc 229 #[.string s] w' fun e w''=>e=.returned (.string s)∧Below w'.heap.size w' w''):=fun w'=>clone14_any s w' (by omega)
  clear h;go_enter Tryz.func170,Tryz.ntmps170
  go_wp2_with fail
  obtain ⟨wk,hwk⟩:∃x,x=w:=⟨_,rfl⟩;subst hwk;have HD0:Hid (Kb wk (wk.drewN 1)):=below_drewN (Below.refl _ _) 1;refine wp_region_last (S:=fun w'=>Kb wk w') 7 (by kernel_rfl) (HD0.out) (fun hHeld=>?_);refine tlp 0 (.pointer (some ⟨gv,0,none⟩)) hHeld ?_;simp only [Act.put,zq1,zq2,zq4,zq5,zq6];refine tlp 1 (.pointer (some ⟨gv,0,none⟩)) hHeld ?_;simp only [Act.put,zq1,zq2,zq3,zq4,zq5,zq6];refine tlp 2 (.pointer (some ⟨gv,2,none⟩)) hHeld ?_;simp only [Act.put,zq1,zq2,zq3,zq4,zq5,zq6];refine tlg 3 (.map (some b)) rfl (Or.inl ⟨by rfl,fun w hS=>by (have c2:=HC2.out _ hS;go_simp)⟩) hHeld ?_;simp only [Act.put,zq1,zq2,zq3,zq4,zq5,zq6];refine tlp 4 (.string s) hHeld ?_;simp only [Act.put,zq1,zq2,zq3,zq4,zq5,zq6];refine tlp 6 (.int .i64 0) hHeld ?_;simp only [Act.put,zq1,zq2,zq3,zq4,zq5,zq6];refine wpAnyL_one (i:=5) rfl (by kernel_rfl) (fun KQ hK=>?_);go_simp;refine (HCL.out _).mono ?_;rintro e x1 ⟨rfl,a1⟩;have d1:=grow_trans HD0.out a1;obtain ⟨x2,r2,v2,g2⟩:=HPU.out _ d1;refine hK.out _ _ (d1) (fun hHeld=>?_);clear hK KQ;refine wpAnyL_last rfl (by kernel_rfl) (by kernel_rfl) (fun KQ hK=>?_);refine step_mup14 _ x2 rfl 190 _ _ _ rfl (.map (some b)) (.string s) (.int .i64 0) rfl rfl rfl r2 ?_;refine hK.out _ _ ?_;clear hK KQ;go_wp2
  go_ret;exact ⟨rfl,v2,g2⟩

theorem vset_hold (h:Hv w1 w X gv b g gs R ms cs fr) {s:ByteArray} (hs:s.size≤20) (hl:ms.length≤1000) (i:Nat) (hc:0<cc cs i) (hm:cc cs i<1073741824):Kc 170 #[.pointer (some ⟨gv,0,none⟩),.string s,.int .i64 ((i:Int)+1)] w fun e w'=>e=.returned (.int .i64 0)∧Hv w1 w' X gv b g gs R (nmPut ms s.data.toList (i+1)) (moreC cs i) fr∧Kx X b w w':=by
  have hi:i<65536:=by
    have h1:=cc_lt hc;obtain ⟨S,hS,_⟩:=h.hs;have h2:=hS.inv.len;have h3:=hS.inv.r2;rw [List.length_map] at h2;omega
  have c1:=h.c1;have HHO:Hid (Kc 96 #[.pointer (some ⟨g,0,none⟩),.int .i64 ((i:Int)+1)] w fun e w'=>e=.returned (.int .i64 0)∧Hv w1 w' X gv b g gs R ms (moreC cs i) fr∧Kx X b w w'):=by
    obtain ⟨S,hS,_,hk⟩:=h.hs;refine (hs_hold hS i hc hm).mono ?_;rintro e w' ⟨rfl,h'⟩;obtain ⟨k1,k2⟩:=hk _ _ _ h';exact ⟨rfl,k1,k2 b⟩
  have HCL:Hid (∀w',Kc 229 #[.string s] w' fun e w''=>e=.returned (.string s)∧Below w'.heap.size w' w''):=fun w'=>clone14_any s w' (by omega)
  have HPX:Hid (∀wk,Hv w1 wk X gv b g gs R ms (moreC cs i) fr→∀w',Kb wk w'→∃w'',(Instr.mapUpdate 190 (.map (some b)) (.string s) (.int .i64 ((i:Int)+1))).run Tryz.prog w'=.ok () w''∧Hv w1 w'' X gv b g gs R (nmPut ms s.data.toList (i+1)) (moreC cs i) fr∧Kx X b wk w''):=fun wk hk=>vset_end hk hs (i+1) (by omega) hl
  clear h hc hm;obtain ⟨q,hq⟩:∃q:Int,q=(i:Int)+1:=⟨_,rfl⟩;have hq0:(q == 0)=false:=by simp;omega
  rw [← hq] at HHO HPX;rw [← hq];clear hq hi;go_enter Tryz.func170,Tryz.ntmps170
  go_wp2_with (go_at_call 96;refine HHO.out.mono ?_;rintro e wk ⟨rfl,hk,kk⟩;have HK:=hidden hk;have HKK:=hidden kk;clear hk kk HHO)
  have HC2:Hid (∀w',Kb wk w'→w'.cell? ⟨gv,2,none⟩=some (.map (some b))):=fun w' hb=>(HK.out.grow hb).c2
  have HPU:=hidden (HPX.out wk HK.out);have HD0:Hid (Kb wk (wk.drewN 1)):=below_drewN (Below.refl _ _) 1;refine wp_region_last (S:=fun w'=>Kb wk w') 7 (by kernel_rfl) (HD0.out) (fun hHeld=>?_);refine tlp 0 (.pointer (some ⟨gv,0,none⟩)) hHeld ?_;simp only [Act.put,zq1,zq2,zq4,zq5,zq6];refine tlp 1 (.pointer (some ⟨gv,0,none⟩)) hHeld ?_;simp only [Act.put,zq1,zq2,zq3,zq4,zq5,zq6];refine tlp 2 (.pointer (some ⟨gv,2,none⟩)) hHeld ?_;simp only [Act.put,zq1,zq2,zq3,zq4,zq5,zq6];refine tlg 3 (.map (some b)) rfl (Or.inl ⟨by rfl,fun w hS=>by (have c2:=HC2.out _ hS;go_simp)⟩) hHeld ?_;simp only [Act.put,zq1,zq2,zq3,zq4,zq5,zq6];refine tlp 4 (.string s) hHeld ?_;simp only [Act.put,zq1,zq2,zq3,zq4,zq5,zq6];refine tlp 6 (.int .i64 q) hHeld ?_;simp only [Act.put,zq1,zq2,zq3,zq4,zq5,zq6];refine wpAnyL_one (i:=5) rfl (by kernel_rfl) (fun KQ hK=>?_);go_simp;refine (HCL.out _).mono ?_;rintro e x1 ⟨rfl,a1⟩;have d1:=grow_trans HD0.out a1;obtain ⟨x2,r2,v2,g2⟩:=HPU.out _ d1;refine hK.out _ _ (d1) (fun hHeld=>?_);clear hK KQ;refine wpAnyL_last rfl (by kernel_rfl) (by kernel_rfl) (fun KQ hK=>?_);refine step_mup14 _ x2 rfl 190 _ _ _ rfl (.map (some b)) (.string s) (.int .i64 q) rfl rfl rfl r2 ?_;refine hK.out _ _ ?_;clear hK KQ;go_wp2
  go_ret;exact ⟨rfl,v2,HKK.out.trans g2⟩

theorem vgo_zero (h:Hv w1 w X gv b g gs R ms cs fr):Kc 147 #[.pointer (some ⟨gv,0,none⟩),.int .i64 0] w fun e w'=>e=.returned (.int .i64 0)∧Hv w1 w' X gv b g gs R ms cs fr∧Kx X b w w':=by
  have c1:=h.c1;have HD:Hid (Kc 97 #[.pointer (some ⟨g,0,none⟩),.int .i64 0] w fun e w'=>e=.returned (.tuple #[.int .i64 0,.int .i64 7])∧Hv w1 w' X gv b g gs R ms cs fr∧Kx X b w w'):=by
    obtain ⟨S,hS,_,hk⟩:=h.hs;refine (hs_drop_miss hS 0 (by simp [cot])).mono ?_;rintro e w' ⟨rfl,h'⟩;obtain ⟨k1,k2⟩:=hk _ _ _ h';exact ⟨rfl,k1,k2 b⟩
  clear h;go_enter Tryz.func147,Tryz.ntmps147
  go_wp2_with (go_at_call 97;refine HD.out.mono ?_;rintro e w2 ⟨rfl,h2,k2⟩)
  go_ret;exact ⟨rfl,h2,k2⟩

theorem vgo_ok (h:Hv w1 w X gv b g gs R ms cs fr) (i:Nat) (ho:0<own cs [] i):Kc 147 #[.pointer (some ⟨gv,0,none⟩),.int .i64 ((i+1:Nat):Int)] w fun e w'=>∃cs' fr' n,Run cs fr [i+1] cs' fr' n∧Step cs [i+1] cs' [] n∧e=.returned (.int .i64 (n:Int))∧Hv w1 w' X gv b g gs R ms cs' fr'∧Kx X b w w':=by
  have c1:=h.c1;have HD:Hid (Kc 97 #[.pointer (some ⟨g,0,none⟩),.int .i64 ((i+1:Nat):Int)] w fun e w'=>∃cs' fr' n,Run cs fr [i+1] cs' fr' n∧Step cs [i+1] cs' [] n∧e=.returned (.tuple #[.int .i64 (n:Int),.int .i64 0])∧Hv w1 w' X gv b g gs R ms cs' fr'∧Kx X b w w'):=by
    obtain ⟨S,hS,_,hk⟩:=h.hs;refine (hs_drop hS i ho).mono ?_;rintro e w' ⟨cs',fr',n,r,st,rfl,h'⟩;obtain ⟨k1,k2⟩:=hk _ _ _ h';exact ⟨cs',fr',n,r,st,rfl,k1,k2 b⟩
  clear h;generalize ((i+1:Nat):Int)=q at HD ⊢;go_enter Tryz.func147,Tryz.ntmps147
  go_wp2_with (go_at_call 97;refine HD.out.mono ?_;rintro e w2 ⟨cs',fr',n,r,st,rfl,h2,k2⟩)
  go_ret;exact ⟨cs',fr',n,r,st,rfl,h2,k2⟩
end

end Go.Proofs.YtdjpigfibafokaaGreatDoor

namespace Go.Proofs.YtdjpigfibafokaaGreatDoor
variable {k:Nat}
set_option maxHeartbeats 2000000
set_option maxRecDepth 20000
open Go.RowKit

theorem zero_rq:∀w,(zeroValue 157).run Tryz.prog w=.ok (.agg #[.pointer none,.string ⟨#[]⟩,.slice none 0 0,.slice none 0 0]) w:=fun w=>by kernel_rfl
theorem size_rq:(Tryz.prog.info? 157).map (·.size)=some 4:=by kernel_rfl

end Go.Proofs.YtdjpigfibafokaaGreatDoor

namespace Go.Proofs.YtdjpigfibafokaaGreatDoor
variable {k:Nat}
set_option maxHeartbeats 2000000
set_option maxRecDepth 20000
open Go.RowKit

theorem results_tmp_row_tmp {fn:Func} {u1 p u2:Tmp} {ty:TypeId} (h:fn.results= #[.tmp u1,.cell p ty,.tmp u2]) (tmps:Array Value) (w:World) (g:Nat) (cs:Array Value) (n:Nat) (el:TypeId) (x y:Value) (hx:tmps.getD u1 undef=x) (hp:tmps.getD p undef=.pointer (some ⟨g,0,none⟩)) (hy:tmps.getD u2 undef=y) (hg:Blk w g ty cs)
    (hu:Tryz.prog.underlying ty=some (.array n el)) (hi:(Tryz.prog.info? ty).map (·.size)=some cs.size):(results fn tmps).run Tryz.prog w=.ok (.tuple #[x,.agg cs,y]) w:=by
  have hp':tmps[p]?.getD undef=.pointer (some ⟨g,0,none⟩):=by simpa using hp
  have hx':tmps[u1]?.getD undef=x:=by simpa using hx
  have hy':tmps[u2]?.getD undef=y:=by simpa using hy
  simp [results,h,hp',hx',hy',asAddr,run_loadVar_row w g ty ty cs (0,0) _ hg hu rfl hi]

theorem info_raw:∃i z,Tryz.prog.info? 163=some i∧i.zero=some z∧i.size=3∧i.bytes=56∧z.cells.size=3:=⟨_,_,rfl,rfl,rfl,rfl,rfl⟩

theorem zero_tr:∀w,(zeroValue 104).run Tryz.prog w=.ok (.agg #[.pointer none,.int .i64 0]) w:=fun w=>by kernel_rfl
theorem size_tr:(Tryz.prog.info? 104).map (·.size)=some 2:=by kernel_rfl

end Go.Proofs.YtdjpigfibafokaaGreatDoor
