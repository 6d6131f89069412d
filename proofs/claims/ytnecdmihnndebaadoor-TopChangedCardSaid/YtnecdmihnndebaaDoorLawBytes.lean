/- Without the statements' own Bytes, which this seat lacks. -/
import Derived.Test.YtnecdmihnndebaaDoorRefSame
